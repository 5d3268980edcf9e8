/- Part. -/
import Derived.Test.YtnkhmgmganejmaaGreatDoorG08
import Derived.Test.YtnkhmgmganejmaaGreatDoorG06
set_option maxRecDepth 100000
set_option maxHeartbeats 16000000
namespace Go.Proofs.YtnkhmgmganejmaaGreatDoor
open Go Go.RowKit
attribute [local go_sem] Oper.semAt_some Grows wide_fn
theorem and_walk (za zb z : Nat → Int) (h : Ret Tryz.prog 150 #[.agg #[.int .u64 (za 0), .int .u64 (za 1), .int .u64 (za 2), .int .u64 (za 3)], .agg #[.int .u64 (zb 0), .int .u64 (zb 1), .int .u64 (zb 2), .int .u64 (zb 3)]] (.agg #[.int .u64 (z 0), .int .u64 (z 1), .int .u64 (z 2), .int .u64 (z 3)])) :
  Ret Tryz.prog 122 #[.agg #[.int .u64 (za 0), .int .u64 (za 1), .int .u64 (za 2), .int .u64 (za 3)], .agg #[.int .u64 (zb 0), .int .u64 (zb 1), .int .u64 (zb 2), .int .u64 (zb 3)]] (.agg #[.int .u64 (z 0), .int .u64 (z 1), .int .u64 (z 2), .int .u64 (z 3)]) := by
 intro w
 have Hh := hid h
 clear h
 go_enter Tryz.func122, Tryz.ntmps122
 have LA := Has.new w 24 #[.int .u64 (za 0), .int .u64 (za 1), .int .u64 (za 2), .int .u64 (za 3)]
 have k1 := LA.cell 0 _ rfl
 have k2 := LA.cell 1 _ rfl
 have k3 := LA.cell 2 _ rfl
 have k4 := LA.cell 3 _ rfl
 have LA := LA.alloc (.cells #[.int .u64 (zb 0), .int .u64 (zb 1), .int .u64 (zb 2), .int .u64 (zb 3)] 24)
 have LB := Has.new (w.alloc (.cells #[.int .u64 (za 0), .int .u64 (za 1), .int .u64 (za 2), .int .u64 (za 3)] 24)) 24 #[.int .u64 (zb 0), .int .u64 (zb 1), .int .u64 (zb 2), .int .u64 (zb 3)]
 simp only [World.size_alloc] at LB
 have k5 := LA.cell 0 _ rfl
 have k6 := LA.cell 1 _ rfl
 have k7 := LA.cell 2 _ rfl
 have k8 := LA.cell 3 _ rfl
 have k9 := LB.cell 0 _ rfl
 have k10 := LB.cell 1 _ rfl
 have k11 := LB.cell 2 _ rfl
 have k12 := LB.cell 3 _ rfl
 have LA := LA.alloc (.cells #[.int .u64 0, .int .u64 0, .int .u64 0, .int .u64 0] 24)
 have LB := LB.alloc (.cells #[.int .u64 0, .int .u64 0, .int .u64 0, .int .u64 0] 24)
 have LR := Has.new ((w.alloc (.cells #[.int .u64 (za 0), .int .u64 (za 1), .int .u64 (za 2), .int .u64 (za 3)] 24)).alloc (.cells #[.int .u64 (zb 0), .int .u64 (zb 1), .int .u64 (zb 2), .int .u64 (zb 3)] 24)) 24 #[.int .u64 0, .int .u64 0, .int .u64 0, .int .u64 0]
 simp only [World.size_alloc] at LR
 have k13 := LA.cell 0 _ rfl
 have k14 := LA.cell 1 _ rfl
 have k15 := LA.cell 2 _ rfl
 have k16 := LA.cell 3 _ rfl
 have k17 := LB.cell 0 _ rfl
 have k18 := LB.cell 1 _ rfl
 have k19 := LB.cell 2 _ rfl
 have k20 := LB.cell 3 _ rfl
 have k21 := LR.cell 0 _ rfl
 have k22 := LR.cell 1 _ rfl
 have k23 := LR.cell 2 _ rfl
 have k24 := LR.cell 3 _ rfl
 have Q := (Below.refl w.heap.size w)
 have Q := Q.alloc Q.size (.cells #[.int .u64 (za 0), .int .u64 (za 1), .int .u64 (za 2), .int .u64 (za 3)] 24)
 have Q := Q.alloc Q.size (.cells #[.int .u64 (zb 0), .int .u64 (zb 1), .int .u64 (zb 2), .int .u64 (zb 3)] 24)
 have Q := Q.alloc Q.size (.cells #[.int .u64 0, .int .u64 0, .int .u64 0, .int .u64 0] 24)
 go_wp2_with fail
 clear k1 k2 k3 k4 k5 k6 k7 k8 k9 k10 k11 k12 k13 k14 k15 k16 k17 k18 k19 k20 k21 k22 k23 k24
 obtain ⟨W1, hW1⟩ : ∃ W1, (((w.alloc (.cells #[.int .u64 (za 0), .int .u64 (za 1), .int .u64 (za 2), .int .u64 (za 3)] 24)).alloc (.cells #[.int .u64 (zb 0), .int .u64 (zb 1), .int .u64 (zb 2), .int .u64 (zb 3)] 24)).alloc (.cells #[.int .u64 0, .int .u64 0, .int .u64 0, .int .u64 0] 24)) = W1 := ⟨_, rfl⟩
 rw [hW1] at LA LB LR Q ⊢
 clear hW1
 refine (Hh.out _).mono ?_
 rintro e v25 ⟨rfl, q⟩
 have LA := LA.later q
 have LB := LB.later q
 have LR := LR.later q
 have Q := Q.trans (q.mono Q.size)
 clear q
 have r0 := LR.cell 0 _ rfl
 have z0 := LR.frozen 0
 have r1 := LR.cell 1 _ rfl
 have z1 := LR.frozen 1
 have r2 := LR.cell 2 _ rfl
 have z2 := LR.frozen 2
 have r3 := LR.cell 3 _ rfl
 have z3 := LR.frozen 3
 have k26 := LA.cell 0 _ rfl
 have k27 := LA.cell 1 _ rfl
 have k28 := LA.cell 2 _ rfl
 have k29 := LA.cell 3 _ rfl
 have k30 := LB.cell 0 _ rfl
 have k31 := LB.cell 1 _ rfl
 have k32 := LB.cell 2 _ rfl
 have k33 := LB.cell 3 _ rfl
 have HR := hid (((((LR.set 0 (.int .u64 (z 0))).set 1 (.int .u64 (z 1))).set 2 (.int .u64 (z 2))).set 3 (.int .u64 (z 3))))
 have HQ := hid (((((Q.setCell (p := ⟨w.heap.size + 1 + 1, 0, none⟩) (show w.heap.size ≤ _ by simp; first | done | omega) (.int .u64 (z 0))).setCell (p := ⟨w.heap.size + 1 + 1, 1, none⟩) (show w.heap.size ≤ _ by simp; first | done | omega) (.int .u64 (z 1))).setCell (p := ⟨w.heap.size + 1 + 1, 2, none⟩) (show w.heap.size ≤ _ by simp; first | done | omega) (.int .u64 (z 2))).setCell (p := ⟨w.heap.size + 1 + 1, 3, none⟩) (show w.heap.size ≤ _ by simp; first | done | omega) (.int .u64 (z 3))))
 clear Q LA LB LR
 go_wp2
 refine bodyPost_ret (results_word (m := z) rfl rfl HR.out) rfl ⟨rfl, HQ.out⟩
theorem and_ret (a b : Nat) (ha : W256 a) (hb : W256 b) : Ret Tryz.prog 122 #[wv a, wv b] (wv (a &&& b)) := and_walk (lim a) (lim b) (lim _) (pair_and a b ha hb)
theorem or_walk (za zb z : Nat → Int) (h : Ret Tryz.prog 151 #[.agg #[.int .u64 (za 0), .int .u64 (za 1), .int .u64 (za 2), .int .u64 (za 3)], .agg #[.int .u64 (zb 0), .int .u64 (zb 1), .int .u64 (zb 2), .int .u64 (zb 3)]] (.agg #[.int .u64 (z 0), .int .u64 (z 1), .int .u64 (z 2), .int .u64 (z 3)])) :
  Ret Tryz.prog 123 #[.agg #[.int .u64 (za 0), .int .u64 (za 1), .int .u64 (za 2), .int .u64 (za 3)], .agg #[.int .u64 (zb 0), .int .u64 (zb 1), .int .u64 (zb 2), .int .u64 (zb 3)]] (.agg #[.int .u64 (z 0), .int .u64 (z 1), .int .u64 (z 2), .int .u64 (z 3)]) := by
 intro w
 have Hh := hid h
 clear h
 go_enter Tryz.func123, Tryz.ntmps123
 have LA := Has.new w 24 #[.int .u64 (za 0), .int .u64 (za 1), .int .u64 (za 2), .int .u64 (za 3)]
 have k1 := LA.cell 0 _ rfl
 have k2 := LA.cell 1 _ rfl
 have k3 := LA.cell 2 _ rfl
 have k4 := LA.cell 3 _ rfl
 have LA := LA.alloc (.cells #[.int .u64 (zb 0), .int .u64 (zb 1), .int .u64 (zb 2), .int .u64 (zb 3)] 24)
 have LB := Has.new (w.alloc (.cells #[.int .u64 (za 0), .int .u64 (za 1), .int .u64 (za 2), .int .u64 (za 3)] 24)) 24 #[.int .u64 (zb 0), .int .u64 (zb 1), .int .u64 (zb 2), .int .u64 (zb 3)]
 simp only [World.size_alloc] at LB
 have k5 := LA.cell 0 _ rfl
 have k6 := LA.cell 1 _ rfl
 have k7 := LA.cell 2 _ rfl
 have k8 := LA.cell 3 _ rfl
 have k9 := LB.cell 0 _ rfl
 have k10 := LB.cell 1 _ rfl
 have k11 := LB.cell 2 _ rfl
 have k12 := LB.cell 3 _ rfl
 have LA := LA.alloc (.cells #[.int .u64 0, .int .u64 0, .int .u64 0, .int .u64 0] 24)
 have LB := LB.alloc (.cells #[.int .u64 0, .int .u64 0, .int .u64 0, .int .u64 0] 24)
 have LR := Has.new ((w.alloc (.cells #[.int .u64 (za 0), .int .u64 (za 1), .int .u64 (za 2), .int .u64 (za 3)] 24)).alloc (.cells #[.int .u64 (zb 0), .int .u64 (zb 1), .int .u64 (zb 2), .int .u64 (zb 3)] 24)) 24 #[.int .u64 0, .int .u64 0, .int .u64 0, .int .u64 0]
 simp only [World.size_alloc] at LR
 have k13 := LA.cell 0 _ rfl
 have k14 := LA.cell 1 _ rfl
 have k15 := LA.cell 2 _ rfl
 have k16 := LA.cell 3 _ rfl
 have k17 := LB.cell 0 _ rfl
 have k18 := LB.cell 1 _ rfl
 have k19 := LB.cell 2 _ rfl
 have k20 := LB.cell 3 _ rfl
 have k21 := LR.cell 0 _ rfl
 have k22 := LR.cell 1 _ rfl
 have k23 := LR.cell 2 _ rfl
 have k24 := LR.cell 3 _ rfl
 have Q := (Below.refl w.heap.size w)
 have Q := Q.alloc Q.size (.cells #[.int .u64 (za 0), .int .u64 (za 1), .int .u64 (za 2), .int .u64 (za 3)] 24)
 have Q := Q.alloc Q.size (.cells #[.int .u64 (zb 0), .int .u64 (zb 1), .int .u64 (zb 2), .int .u64 (zb 3)] 24)
 have Q := Q.alloc Q.size (.cells #[.int .u64 0, .int .u64 0, .int .u64 0, .int .u64 0] 24)
 go_wp2_with fail
 clear k1 k2 k3 k4 k5 k6 k7 k8 k9 k10 k11 k12 k13 k14 k15 k16 k17 k18 k19 k20 k21 k22 k23 k24
 obtain ⟨W1, hW1⟩ : ∃ W1, (((w.alloc (.cells #[.int .u64 (za 0), .int .u64 (za 1), .int .u64 (za 2), .int .u64 (za 3)] 24)).alloc (.cells #[.int .u64 (zb 0), .int .u64 (zb 1), .int .u64 (zb 2), .int .u64 (zb 3)] 24)).alloc (.cells #[.int .u64 0, .int .u64 0, .int .u64 0, .int .u64 0] 24)) = W1 := ⟨_, rfl⟩
 rw [hW1] at LA LB LR Q ⊢
 clear hW1
 refine (Hh.out _).mono ?_
 rintro e v25 ⟨rfl, q⟩
 have LA := LA.later q
 have LB := LB.later q
 have LR := LR.later q
 have Q := Q.trans (q.mono Q.size)
 clear q
 have r0 := LR.cell 0 _ rfl
 have z0 := LR.frozen 0
 have r1 := LR.cell 1 _ rfl
 have z1 := LR.frozen 1
 have r2 := LR.cell 2 _ rfl
 have z2 := LR.frozen 2
 have r3 := LR.cell 3 _ rfl
 have z3 := LR.frozen 3
 have k26 := LA.cell 0 _ rfl
 have k27 := LA.cell 1 _ rfl
 have k28 := LA.cell 2 _ rfl
 have k29 := LA.cell 3 _ rfl
 have k30 := LB.cell 0 _ rfl
 have k31 := LB.cell 1 _ rfl
 have k32 := LB.cell 2 _ rfl
 have k33 := LB.cell 3 _ rfl
 have HR := hid (((((LR.set 0 (.int .u64 (z 0))).set 1 (.int .u64 (z 1))).set 2 (.int .u64 (z 2))).set 3 (.int .u64 (z 3))))
 have HQ := hid (((((Q.setCell (p := ⟨w.heap.size + 1 + 1, 0, none⟩) (show w.heap.size ≤ _ by simp; first | done | omega) (.int .u64 (z 0))).setCell (p := ⟨w.heap.size + 1 + 1, 1, none⟩) (show w.heap.size ≤ _ by simp; first | done | omega) (.int .u64 (z 1))).setCell (p := ⟨w.heap.size + 1 + 1, 2, none⟩) (show w.heap.size ≤ _ by simp; first | done | omega) (.int .u64 (z 2))).setCell (p := ⟨w.heap.size + 1 + 1, 3, none⟩) (show w.heap.size ≤ _ by simp; first | done | omega) (.int .u64 (z 3))))
 clear Q LA LB LR
 go_wp2
 refine bodyPost_ret (results_word (m := z) rfl rfl HR.out) rfl ⟨rfl, HQ.out⟩
theorem or_ret (a b : Nat) (ha : W256 a) (hb : W256 b) : Ret Tryz.prog 123 #[wv a, wv b] (wv (a ||| b)) := or_walk (lim a) (lim b) (lim _) (pair_or a b ha hb)
theorem xor_walk (za zb z : Nat → Int) (h : Ret Tryz.prog 152 #[.agg #[.int .u64 (za 0), .int .u64 (za 1), .int .u64 (za 2), .int .u64 (za 3)], .agg #[.int .u64 (zb 0), .int .u64 (zb 1), .int .u64 (zb 2), .int .u64 (zb 3)]] (.agg #[.int .u64 (z 0), .int .u64 (z 1), .int .u64 (z 2), .int .u64 (z 3)])) :
  Ret Tryz.prog 124 #[.agg #[.int .u64 (za 0), .int .u64 (za 1), .int .u64 (za 2), .int .u64 (za 3)], .agg #[.int .u64 (zb 0), .int .u64 (zb 1), .int .u64 (zb 2), .int .u64 (zb 3)]] (.agg #[.int .u64 (z 0), .int .u64 (z 1), .int .u64 (z 2), .int .u64 (z 3)]) := by
 intro w
 have Hh := hid h
 clear h
 go_enter Tryz.func124, Tryz.ntmps124
 have LA := Has.new w 24 #[.int .u64 (za 0), .int .u64 (za 1), .int .u64 (za 2), .int .u64 (za 3)]
 have k1 := LA.cell 0 _ rfl
 have k2 := LA.cell 1 _ rfl
 have k3 := LA.cell 2 _ rfl
 have k4 := LA.cell 3 _ rfl
 have LA := LA.alloc (.cells #[.int .u64 (zb 0), .int .u64 (zb 1), .int .u64 (zb 2), .int .u64 (zb 3)] 24)
 have LB := Has.new (w.alloc (.cells #[.int .u64 (za 0), .int .u64 (za 1), .int .u64 (za 2), .int .u64 (za 3)] 24)) 24 #[.int .u64 (zb 0), .int .u64 (zb 1), .int .u64 (zb 2), .int .u64 (zb 3)]
 simp only [World.size_alloc] at LB
 have k5 := LA.cell 0 _ rfl
 have k6 := LA.cell 1 _ rfl
 have k7 := LA.cell 2 _ rfl
 have k8 := LA.cell 3 _ rfl
 have k9 := LB.cell 0 _ rfl
 have k10 := LB.cell 1 _ rfl
 have k11 := LB.cell 2 _ rfl
 have k12 := LB.cell 3 _ rfl
 have LA := LA.alloc (.cells #[.int .u64 0, .int .u64 0, .int .u64 0, .int .u64 0] 24)
 have LB := LB.alloc (.cells #[.int .u64 0, .int .u64 0, .int .u64 0, .int .u64 0] 24)
 have LR := Has.new ((w.alloc (.cells #[.int .u64 (za 0), .int .u64 (za 1), .int .u64 (za 2), .int .u64 (za 3)] 24)).alloc (.cells #[.int .u64 (zb 0), .int .u64 (zb 1), .int .u64 (zb 2), .int .u64 (zb 3)] 24)) 24 #[.int .u64 0, .int .u64 0, .int .u64 0, .int .u64 0]
 simp only [World.size_alloc] at LR
 have k13 := LA.cell 0 _ rfl
 have k14 := LA.cell 1 _ rfl
 have k15 := LA.cell 2 _ rfl
 have k16 := LA.cell 3 _ rfl
 have k17 := LB.cell 0 _ rfl
 have k18 := LB.cell 1 _ rfl
 have k19 := LB.cell 2 _ rfl
 have k20 := LB.cell 3 _ rfl
 have k21 := LR.cell 0 _ rfl
 have k22 := LR.cell 1 _ rfl
 have k23 := LR.cell 2 _ rfl
 have k24 := LR.cell 3 _ rfl
 have Q := (Below.refl w.heap.size w)
 have Q := Q.alloc Q.size (.cells #[.int .u64 (za 0), .int .u64 (za 1), .int .u64 (za 2), .int .u64 (za 3)] 24)
 have Q := Q.alloc Q.size (.cells #[.int .u64 (zb 0), .int .u64 (zb 1), .int .u64 (zb 2), .int .u64 (zb 3)] 24)
 have Q := Q.alloc Q.size (.cells #[.int .u64 0, .int .u64 0, .int .u64 0, .int .u64 0] 24)
 go_wp2_with fail
 clear k1 k2 k3 k4 k5 k6 k7 k8 k9 k10 k11 k12 k13 k14 k15 k16 k17 k18 k19 k20 k21 k22 k23 k24
 obtain ⟨W1, hW1⟩ : ∃ W1, (((w.alloc (.cells #[.int .u64 (za 0), .int .u64 (za 1), .int .u64 (za 2), .int .u64 (za 3)] 24)).alloc (.cells #[.int .u64 (zb 0), .int .u64 (zb 1), .int .u64 (zb 2), .int .u64 (zb 3)] 24)).alloc (.cells #[.int .u64 0, .int .u64 0, .int .u64 0, .int .u64 0] 24)) = W1 := ⟨_, rfl⟩
 rw [hW1] at LA LB LR Q ⊢
 clear hW1
 refine (Hh.out _).mono ?_
 rintro e v25 ⟨rfl, q⟩
 have LA := LA.later q
 have LB := LB.later q
 have LR := LR.later q
 have Q := Q.trans (q.mono Q.size)
 clear q
 have r0 := LR.cell 0 _ rfl
 have z0 := LR.frozen 0
 have r1 := LR.cell 1 _ rfl
 have z1 := LR.frozen 1
 have r2 := LR.cell 2 _ rfl
 have z2 := LR.frozen 2
 have r3 := LR.cell 3 _ rfl
 have z3 := LR.frozen 3
 have k26 := LA.cell 0 _ rfl
 have k27 := LA.cell 1 _ rfl
 have k28 := LA.cell 2 _ rfl
 have k29 := LA.cell 3 _ rfl
 have k30 := LB.cell 0 _ rfl
 have k31 := LB.cell 1 _ rfl
 have k32 := LB.cell 2 _ rfl
 have k33 := LB.cell 3 _ rfl
 have HR := hid (((((LR.set 0 (.int .u64 (z 0))).set 1 (.int .u64 (z 1))).set 2 (.int .u64 (z 2))).set 3 (.int .u64 (z 3))))
 have HQ := hid (((((Q.setCell (p := ⟨w.heap.size + 1 + 1, 0, none⟩) (show w.heap.size ≤ _ by simp; first | done | omega) (.int .u64 (z 0))).setCell (p := ⟨w.heap.size + 1 + 1, 1, none⟩) (show w.heap.size ≤ _ by simp; first | done | omega) (.int .u64 (z 1))).setCell (p := ⟨w.heap.size + 1 + 1, 2, none⟩) (show w.heap.size ≤ _ by simp; first | done | omega) (.int .u64 (z 2))).setCell (p := ⟨w.heap.size + 1 + 1, 3, none⟩) (show w.heap.size ≤ _ by simp; first | done | omega) (.int .u64 (z 3))))
 clear Q LA LB LR
 go_wp2
 refine bodyPost_ret (results_word (m := z) rfl rfl HR.out) rfl ⟨rfl, HQ.out⟩
theorem xor_ret (a b : Nat) (ha : W256 a) (hb : W256 b) : Ret Tryz.prog 124 #[wv a, wv b] (wv (a ^^^ b)) := xor_walk (lim a) (lim b) (lim _) (pair_xor a b ha hb)
theorem not_walk (za zm z : Nat → Int) (h1 : Ret Tryz.prog 134 #[.int .i64 (-1)] (.agg #[.int .u64 (zm 0), .int .u64 (zm 1), .int .u64 (zm 2), .int .u64 (zm 3)])) (h2 : Ret Tryz.prog 124 #[.agg #[.int .u64 (za 0), .int .u64 (za 1), .int .u64 (za 2), .int .u64 (za 3)], .agg #[.int .u64 (zm 0), .int .u64 (zm 1), .int .u64 (zm 2), .int .u64 (zm 3)]] (.agg #[.int .u64 (z 0), .int .u64 (z 1), .int .u64 (z 2), .int .u64 (z 3)])) :
  Ret Tryz.prog 107 #[.agg #[.int .u64 (za 0), .int .u64 (za 1), .int .u64 (za 2), .int .u64 (za 3)]] (.agg #[.int .u64 (z 0), .int .u64 (z 1), .int .u64 (z 2), .int .u64 (z 3)]) := by
 intro w
 have Hh1 := hid h1
 have Hh2 := hid h2
 clear h1 h2
 go_enter Tryz.func107, Tryz.ntmps107
 have LA := Has.new w 24 #[.int .u64 (za 0), .int .u64 (za 1), .int .u64 (za 2), .int .u64 (za 3)]
 have k1 := LA.cell 0 _ rfl
 have k2 := LA.cell 1 _ rfl
 have k3 := LA.cell 2 _ rfl
 have k4 := LA.cell 3 _ rfl
 have LA := LA.alloc (.cells #[.int .u64 0, .int .u64 0, .int .u64 0, .int .u64 0] 24)
 have LR := Has.new (w.alloc (.cells #[.int .u64 (za 0), .int .u64 (za 1), .int .u64 (za 2), .int .u64 (za 3)] 24)) 24 #[.int .u64 0, .int .u64 0, .int .u64 0, .int .u64 0]
 simp only [World.size_alloc] at LR
 have k5 := LA.cell 0 _ rfl
 have k6 := LA.cell 1 _ rfl
 have k7 := LA.cell 2 _ rfl
 have k8 := LA.cell 3 _ rfl
 have k9 := LR.cell 0 _ rfl
 have k10 := LR.cell 1 _ rfl
 have k11 := LR.cell 2 _ rfl
 have k12 := LR.cell 3 _ rfl
 have Q := (Below.refl w.heap.size w)
 have Q := Q.alloc Q.size (.cells #[.int .u64 (za 0), .int .u64 (za 1), .int .u64 (za 2), .int .u64 (za 3)] 24)
 have Q := Q.alloc Q.size (.cells #[.int .u64 0, .int .u64 0, .int .u64 0, .int .u64 0] 24)
 go_wp2_with fail
 clear k1 k2 k3 k4 k5 k6 k7 k8 k9 k10 k11 k12
 obtain ⟨W1, hW1⟩ : ∃ W1, ((w.alloc (.cells #[.int .u64 (za 0), .int .u64 (za 1), .int .u64 (za 2), .int .u64 (za 3)] 24)).alloc (.cells #[.int .u64 0, .int .u64 0, .int .u64 0, .int .u64 0] 24)) = W1 := ⟨_, rfl⟩
 rw [hW1] at LA LR Q ⊢
 clear hW1
 have k13 : ∀ x : Ext W1, x.w.cell? ⟨w.heap.size, 0, none⟩ = some (.int .u64 (za 0)) := fun x => (LA.later x.below).cell 0 _ rfl
 have k14 : ∀ x : Ext W1, x.w.cell? ⟨w.heap.size, 1, none⟩ = some (.int .u64 (za 1)) := fun x => (LA.later x.below).cell 1 _ rfl
 have k15 : ∀ x : Ext W1, x.w.cell? ⟨w.heap.size, 2, none⟩ = some (.int .u64 (za 2)) := fun x => (LA.later x.below).cell 2 _ rfl
 have k16 : ∀ x : Ext W1, x.w.cell? ⟨w.heap.size, 3, none⟩ = some (.int .u64 (za 3)) := fun x => (LA.later x.below).cell 3 _ rfl
 have k17 : ∀ x : Ext W1, x.w.cell? ⟨w.heap.size + 1, 0, none⟩ = some (.int .u64 0) := fun x => (LR.later x.below).cell 0 _ rfl
 have k18 : ∀ x : Ext W1, x.w.cell? ⟨w.heap.size + 1, 1, none⟩ = some (.int .u64 0) := fun x => (LR.later x.below).cell 1 _ rfl
 have k19 : ∀ x : Ext W1, x.w.cell? ⟨w.heap.size + 1, 2, none⟩ = some (.int .u64 0) := fun x => (LR.later x.below).cell 2 _ rfl
 have k20 : ∀ x : Ext W1, x.w.cell? ⟨w.heap.size + 1, 3, none⟩ = some (.int .u64 0) := fun x => (LR.later x.below).cell 3 _ rfl
 have hmx : Tryz.prog.follows .mixedOrders = true := by kernel_rfl
 refine wp_region_mix (C := Grows W1) [some true, some true, some true, none] hmx (by kernel_rfl) (by kernel_rfl) (grows_refl W1) ?_
 simp only [headOf, tailOf]
 repeat (go_big_quiet_step (first | (with_reducible exact Ret.at Hh1.out _) | (with_reducible exact Ret.at Hh2.out _)))
 refine wpQuiet_nil ?_
 rintro _ ⟨x21, rfl⟩
 clear k13 k14 k15 k16 k17 k18 k19 k20
 have LR := LR.later x21.below
 have Q := Q.trans (x21.below.mono Q.size)
 have r0 := LR.cell 0 _ rfl
 have z0 := LR.frozen 0
 have r1 := LR.cell 1 _ rfl
 have z1 := LR.frozen 1
 have r2 := LR.cell 2 _ rfl
 have z2 := LR.frozen 2
 have r3 := LR.cell 3 _ rfl
 have z3 := LR.frozen 3
 have HR := hid (((((LR.set 0 (.int .u64 (z 0))).set 1 (.int .u64 (z 1))).set 2 (.int .u64 (z 2))).set 3 (.int .u64 (z 3))))
 have HQ := hid (((((Q.setCell (p := ⟨w.heap.size + 1, 0, none⟩) (show w.heap.size ≤ _ by simp; first | done | omega) (.int .u64 (z 0))).setCell (p := ⟨w.heap.size + 1, 1, none⟩) (show w.heap.size ≤ _ by simp; first | done | omega) (.int .u64 (z 1))).setCell (p := ⟨w.heap.size + 1, 2, none⟩) (show w.heap.size ≤ _ by simp; first | done | omega) (.int .u64 (z 2))).setCell (p := ⟨w.heap.size + 1, 3, none⟩) (show w.heap.size ≤ _ by simp; first | done | omega) (.int .u64 (z 3))))
 clear Q LA LR
 go_wp2
 rw [calmPost_normal]
 go_wp2
 refine bodyPost_ret (results_word (m := z) rfl rfl HR.out) rfl ⟨rfl, HQ.out⟩
def M1 : Nat := 115792089237316195423570985008687907853269984665640564039457584007913129639935
theorem ofN_m1 : ofN (-1) = M1 := by decide
theorem M1_lt : W256 M1 := by unfold W256 M1; omega
theorem not_ret (a : Nat) (ha : W256 a) : Ret Tryz.prog 107 #[wv a] (wv (a ^^^ M1)) := by
 have h := of_ret (-1) (by unfold I64; omega)
 rw [ofN_m1] at h
 exact not_walk (lim a) (lim M1) (lim _) h (xor_ret a M1 ha M1_lt)
theorem dist_walk (zb : Nat → Int) (d : Int) (h : Ret Tryz.prog 146 #[.agg #[.int .u64 (zb 0), .int .u64 (zb 1), .int .u64 (zb 2), .int .u64 (zb 3)]] (.tuple #[.int .i64 d, .bool true])) :
  Ret Tryz.prog 155 #[.agg #[.int .u64 (zb 0), .int .u64 (zb 1), .int .u64 (zb 2), .int .u64 (zb 3)]] (.int .i64 d) := by
 intro w
 have Hh := hid h
 clear h
 go_enter Tryz.func155, Tryz.ntmps155
 have LB := Has.new w 24 #[.int .u64 (zb 0), .int .u64 (zb 1), .int .u64 (zb 2), .int .u64 (zb 3)]
 have k1 := LB.cell 0 _ rfl
 have k2 := LB.cell 1 _ rfl
 have k3 := LB.cell 2 _ rfl
 have k4 := LB.cell 3 _ rfl
 have Q := (Below.refl w.heap.size w)
 have Q := Q.alloc Q.size (.cells #[.int .u64 (zb 0), .int .u64 (zb 1), .int .u64 (zb 2), .int .u64 (zb 3)] 24)
 go_wp2_with fail
 clear k1 k2 k3 k4
 obtain ⟨W1, hW1⟩ : ∃ W1, (w.alloc (.cells #[.int .u64 (zb 0), .int .u64 (zb 1), .int .u64 (zb 2), .int .u64 (zb 3)] 24)) = W1 := ⟨_, rfl⟩
 rw [hW1] at LB Q ⊢
 clear hW1
 refine (Hh.out _).mono ?_
 rintro e v5 ⟨rfl, q⟩
 have LB := LB.later q
 have Q := Q.trans (q.mono Q.size)
 clear q
 have k6 := LB.cell 0 _ rfl
 have k7 := LB.cell 1 _ rfl
 have k8 := LB.cell 2 _ rfl
 have k9 := LB.cell 3 _ rfl
 go_wp2
 clear k6 k7 k8 k9
 go_ret
 exact ⟨rfl, Q⟩
theorem dist_far (zb : Nat → Int) (h : Ret Tryz.prog 146 #[.agg #[.int .u64 (zb 0), .int .u64 (zb 1), .int .u64 (zb 2), .int .u64 (zb 3)]] (.tuple #[.int .i64 0, .bool false])) :
  Ret Tryz.prog 155 #[.agg #[.int .u64 (zb 0), .int .u64 (zb 1), .int .u64 (zb 2), .int .u64 (zb 3)]] (.int .i64 256) := by
 intro w
 have Hh := hid h
 clear h
 go_enter Tryz.func155, Tryz.ntmps155
 have LB := Has.new w 24 #[.int .u64 (zb 0), .int .u64 (zb 1), .int .u64 (zb 2), .int .u64 (zb 3)]
 have k1 := LB.cell 0 _ rfl
 have k2 := LB.cell 1 _ rfl
 have k3 := LB.cell 2 _ rfl
 have k4 := LB.cell 3 _ rfl
 have Q := (Below.refl w.heap.size w)
 have Q := Q.alloc Q.size (.cells #[.int .u64 (zb 0), .int .u64 (zb 1), .int .u64 (zb 2), .int .u64 (zb 3)] 24)
 go_wp2_with fail
 clear k1 k2 k3 k4
 obtain ⟨W1, hW1⟩ : ∃ W1, (w.alloc (.cells #[.int .u64 (zb 0), .int .u64 (zb 1), .int .u64 (zb 2), .int .u64 (zb 3)] 24)) = W1 := ⟨_, rfl⟩
 rw [hW1] at LB Q ⊢
 clear hW1
 refine (Hh.out _).mono ?_
 rintro e v5 ⟨rfl, q⟩
 have LB := LB.later q
 have Q := Q.trans (q.mono Q.size)
 clear q
 have k6 := LB.cell 0 _ rfl
 have k7 := LB.cell 1 _ rfl
 have k8 := LB.cell 2 _ rfl
 have k9 := LB.cell 3 _ rfl
 go_wp2
 clear k6 k7 k8 k9
 go_ret
 exact ⟨rfl, Q⟩
def distN (b : Nat) : Nat := if b ≤ maxI then b else 256
theorem distN_le (b : Nat) : distN b ≤ 4611686018427387903 := by unfold distN maxI; split <;> omega
theorem dist_ret (b : Nat) (hb : W256 b) : Ret Tryz.prog 155 #[wv b] (.int .i64 (distN b : Int)) := by
 have h := int_ret b hb
 unfold intV at h
 unfold distN
 by_cases hm : b ≤ maxI
 ·rw [if_pos hm] at h ⊢; exact dist_walk (lim b) _ h
 ·rw [if_neg hm] at h ⊢; exact dist_far (lim b) h
theorem shl_walk (zb za z : Nat → Int) (d : Int) (h1 : Ret Tryz.prog 155 #[.agg #[.int .u64 (zb 0), .int .u64 (zb 1), .int .u64 (zb 2), .int .u64 (zb 3)]] (.int .i64 d)) (h2 : RetT Tryz.prog 154 #[.agg #[.int .u64 (za 0), .int .u64 (za 1), .int .u64 (za 2), .int .u64 (za 3)], .int .i64 d] (.agg #[.int .u64 (z 0), .int .u64 (z 1), .int .u64 (z 2), .int .u64 (z 3)])) :
  RetT Tryz.prog 126 #[.agg #[.int .u64 (zb 0), .int .u64 (zb 1), .int .u64 (zb 2), .int .u64 (zb 3)], .agg #[.int .u64 (za 0), .int .u64 (za 1), .int .u64 (za 2), .int .u64 (za 3)]] (.agg #[.int .u64 (z 0), .int .u64 (z 1), .int .u64 (z 2), .int .u64 (z 3)]) := by
 intro w HT
 have Hh1 := hid h1
 have Hh2 := hid h2
 clear h1 h2
 go_enter Tryz.func126, Tryz.ntmps126
 have LB := Has.new w 24 #[.int .u64 (zb 0), .int .u64 (zb 1), .int .u64 (zb 2), .int .u64 (zb 3)]
 have k1 := LB.cell 0 _ rfl
 have k2 := LB.cell 1 _ rfl
 have k3 := LB.cell 2 _ rfl
 have k4 := LB.cell 3 _ rfl
 have LB := LB.alloc (.cells #[.int .u64 (za 0), .int .u64 (za 1), .int .u64 (za 2), .int .u64 (za 3)] 24)
 have LA := Has.new (w.alloc (.cells #[.int .u64 (zb 0), .int .u64 (zb 1), .int .u64 (zb 2), .int .u64 (zb 3)] 24)) 24 #[.int .u64 (za 0), .int .u64 (za 1), .int .u64 (za 2), .int .u64 (za 3)]
 simp only [World.size_alloc] at LA
 have k5 := LB.cell 0 _ rfl
 have k6 := LB.cell 1 _ rfl
 have k7 := LB.cell 2 _ rfl
 have k8 := LB.cell 3 _ rfl
 have k9 := LA.cell 0 _ rfl
 have k10 := LA.cell 1 _ rfl
 have k11 := LA.cell 2 _ rfl
 have k12 := LA.cell 3 _ rfl
 have LB := LB.alloc (.cells #[.int .u64 0, .int .u64 0, .int .u64 0, .int .u64 0] 24)
 have LA := LA.alloc (.cells #[.int .u64 0, .int .u64 0, .int .u64 0, .int .u64 0] 24)
 have LR := Has.new ((w.alloc (.cells #[.int .u64 (zb 0), .int .u64 (zb 1), .int .u64 (zb 2), .int .u64 (zb 3)] 24)).alloc (.cells #[.int .u64 (za 0), .int .u64 (za 1), .int .u64 (za 2), .int .u64 (za 3)] 24)) 24 #[.int .u64 0, .int .u64 0, .int .u64 0, .int .u64 0]
 simp only [World.size_alloc] at LR
 have k13 := LB.cell 0 _ rfl
 have k14 := LB.cell 1 _ rfl
 have k15 := LB.cell 2 _ rfl
 have k16 := LB.cell 3 _ rfl
 have k17 := LA.cell 0 _ rfl
 have k18 := LA.cell 1 _ rfl
 have k19 := LA.cell 2 _ rfl
 have k20 := LA.cell 3 _ rfl
 have k21 := LR.cell 0 _ rfl
 have k22 := LR.cell 1 _ rfl
 have k23 := LR.cell 2 _ rfl
 have k24 := LR.cell 3 _ rfl
 have Q := (Below.refl w.heap.size w)
 have Q := Q.alloc Q.size (.cells #[.int .u64 (zb 0), .int .u64 (zb 1), .int .u64 (zb 2), .int .u64 (zb 3)] 24)
 have HT := HT.alloc (.cells #[.int .u64 (zb 0), .int .u64 (zb 1), .int .u64 (zb 2), .int .u64 (zb 3)] 24)
 have Q := Q.alloc Q.size (.cells #[.int .u64 (za 0), .int .u64 (za 1), .int .u64 (za 2), .int .u64 (za 3)] 24)
 have HT := HT.alloc (.cells #[.int .u64 (za 0), .int .u64 (za 1), .int .u64 (za 2), .int .u64 (za 3)] 24)
 have Q := Q.alloc Q.size (.cells #[.int .u64 0, .int .u64 0, .int .u64 0, .int .u64 0] 24)
 have HT := HT.alloc (.cells #[.int .u64 0, .int .u64 0, .int .u64 0, .int .u64 0] 24)
 go_wp2_with fail
 clear k1 k2 k3 k4 k5 k6 k7 k8 k9 k10 k11 k12 k13 k14 k15 k16 k17 k18 k19 k20 k21 k22 k23 k24
 obtain ⟨W1, hW1⟩ : ∃ W1, (((w.alloc (.cells #[.int .u64 (zb 0), .int .u64 (zb 1), .int .u64 (zb 2), .int .u64 (zb 3)] 24)).alloc (.cells #[.int .u64 (za 0), .int .u64 (za 1), .int .u64 (za 2), .int .u64 (za 3)] 24)).alloc (.cells #[.int .u64 0, .int .u64 0, .int .u64 0, .int .u64 0] 24)) = W1 := ⟨_, rfl⟩
 rw [hW1] at LB LA LR Q HT ⊢
 clear hW1
 have k25 : ∀ x : Ext W1, x.w.cell? ⟨w.heap.size, 0, none⟩ = some (.int .u64 (zb 0)) := fun x => (LB.later x.below).cell 0 _ rfl
 have k26 : ∀ x : Ext W1, x.w.cell? ⟨w.heap.size, 1, none⟩ = some (.int .u64 (zb 1)) := fun x => (LB.later x.below).cell 1 _ rfl
 have k27 : ∀ x : Ext W1, x.w.cell? ⟨w.heap.size, 2, none⟩ = some (.int .u64 (zb 2)) := fun x => (LB.later x.below).cell 2 _ rfl
 have k28 : ∀ x : Ext W1, x.w.cell? ⟨w.heap.size, 3, none⟩ = some (.int .u64 (zb 3)) := fun x => (LB.later x.below).cell 3 _ rfl
 have k29 : ∀ x : Ext W1, x.w.cell? ⟨w.heap.size + 1, 0, none⟩ = some (.int .u64 (za 0)) := fun x => (LA.later x.below).cell 0 _ rfl
 have k30 : ∀ x : Ext W1, x.w.cell? ⟨w.heap.size + 1, 1, none⟩ = some (.int .u64 (za 1)) := fun x => (LA.later x.below).cell 1 _ rfl
 have k31 : ∀ x : Ext W1, x.w.cell? ⟨w.heap.size + 1, 2, none⟩ = some (.int .u64 (za 2)) := fun x => (LA.later x.below).cell 2 _ rfl
 have k32 : ∀ x : Ext W1, x.w.cell? ⟨w.heap.size + 1, 3, none⟩ = some (.int .u64 (za 3)) := fun x => (LA.later x.below).cell 3 _ rfl
 have k33 : ∀ x : Ext W1, x.w.cell? ⟨w.heap.size + 1 + 1, 0, none⟩ = some (.int .u64 0) := fun x => (LR.later x.below).cell 0 _ rfl
 have k34 : ∀ x : Ext W1, x.w.cell? ⟨w.heap.size + 1 + 1, 1, none⟩ = some (.int .u64 0) := fun x => (LR.later x.below).cell 1 _ rfl
 have k35 : ∀ x : Ext W1, x.w.cell? ⟨w.heap.size + 1 + 1, 2, none⟩ = some (.int .u64 0) := fun x => (LR.later x.below).cell 2 _ rfl
 have k36 : ∀ x : Ext W1, x.w.cell? ⟨w.heap.size + 1 + 1, 3, none⟩ = some (.int .u64 0) := fun x => (LR.later x.below).cell 3 _ rfl
 have hmx : Tryz.prog.follows .mixedOrders = true := by kernel_rfl
 refine wp_region_mix (C := Grows W1) [some true, some true, some true, some true, none] hmx (by kernel_rfl) (by kernel_rfl) (grows_refl W1) ?_
 simp only [headOf, tailOf]
 repeat (go_big_quiet_step (first | (with_reducible exact Ret.at Hh1.out _) | (with_reducible exact RetT.at Hh2.out HT _)))
 refine wpQuiet_nil ?_
 rintro _ ⟨x37, rfl⟩
 clear k25 k26 k27 k28 k29 k30 k31 k32 k33 k34 k35 k36
 have LR := LR.later x37.below
 have Q := Q.trans (x37.below.mono Q.size)
 have r0 := LR.cell 0 _ rfl
 have z0 := LR.frozen 0
 have r1 := LR.cell 1 _ rfl
 have z1 := LR.frozen 1
 have r2 := LR.cell 2 _ rfl
 have z2 := LR.frozen 2
 have r3 := LR.cell 3 _ rfl
 have z3 := LR.frozen 3
 have HR := hid (((((LR.set 0 (.int .u64 (z 0))).set 1 (.int .u64 (z 1))).set 2 (.int .u64 (z 2))).set 3 (.int .u64 (z 3))))
 have HQ := hid (((((Q.setCell (p := ⟨w.heap.size + 1 + 1, 0, none⟩) (show w.heap.size ≤ _ by simp; first | done | omega) (.int .u64 (z 0))).setCell (p := ⟨w.heap.size + 1 + 1, 1, none⟩) (show w.heap.size ≤ _ by simp; first | done | omega) (.int .u64 (z 1))).setCell (p := ⟨w.heap.size + 1 + 1, 2, none⟩) (show w.heap.size ≤ _ by simp; first | done | omega) (.int .u64 (z 2))).setCell (p := ⟨w.heap.size + 1 + 1, 3, none⟩) (show w.heap.size ≤ _ by simp; first | done | omega) (.int .u64 (z 3))))
 clear Q LB LA LR
 go_wp2
 rw [calmPost_normal]
 go_wp2
 refine bodyPost_ret (results_word (m := z) rfl rfl HR.out) rfl ⟨rfl, HQ.out⟩
theorem shr_walk (zb za z : Nat → Int) (d : Int) (hd : 0 ≤ d ∧ d ≤ 4611686018427387904) (h1 : Ret Tryz.prog 155 #[.agg #[.int .u64 (zb 0), .int .u64 (zb 1), .int .u64 (zb 2), .int .u64 (zb 3)]] (.int .i64 d)) (h2 : RetT Tryz.prog 154 #[.agg #[.int .u64 (za 0), .int .u64 (za 1), .int .u64 (za 2), .int .u64 (za 3)], .int .i64 (-d)] (.agg #[.int .u64 (z 0), .int .u64 (z 1), .int .u64 (z 2), .int .u64 (z 3)])) :
  RetT Tryz.prog 127 #[.agg #[.int .u64 (zb 0), .int .u64 (zb 1), .int .u64 (zb 2), .int .u64 (zb 3)], .agg #[.int .u64 (za 0), .int .u64 (za 1), .int .u64 (za 2), .int .u64 (za 3)]] (.agg #[.int .u64 (z 0), .int .u64 (z 1), .int .u64 (z 2), .int .u64 (z 3)]) := by
 intro w HT
 obtain ⟨hd1, hd2⟩ := hd
 have Hh1 := hid h1
 have Hh2 := hid h2
 clear h1 h2
 go_enter Tryz.func127, Tryz.ntmps127
 have LB := Has.new w 24 #[.int .u64 (zb 0), .int .u64 (zb 1), .int .u64 (zb 2), .int .u64 (zb 3)]
 have k1 := LB.cell 0 _ rfl
 have k2 := LB.cell 1 _ rfl
 have k3 := LB.cell 2 _ rfl
 have k4 := LB.cell 3 _ rfl
 have LB := LB.alloc (.cells #[.int .u64 (za 0), .int .u64 (za 1), .int .u64 (za 2), .int .u64 (za 3)] 24)
 have LA := Has.new (w.alloc (.cells #[.int .u64 (zb 0), .int .u64 (zb 1), .int .u64 (zb 2), .int .u64 (zb 3)] 24)) 24 #[.int .u64 (za 0), .int .u64 (za 1), .int .u64 (za 2), .int .u64 (za 3)]
 simp only [World.size_alloc] at LA
 have k5 := LB.cell 0 _ rfl
 have k6 := LB.cell 1 _ rfl
 have k7 := LB.cell 2 _ rfl
 have k8 := LB.cell 3 _ rfl
 have k9 := LA.cell 0 _ rfl
 have k10 := LA.cell 1 _ rfl
 have k11 := LA.cell 2 _ rfl
 have k12 := LA.cell 3 _ rfl
 have LB := LB.alloc (.cells #[.int .u64 0, .int .u64 0, .int .u64 0, .int .u64 0] 24)
 have LA := LA.alloc (.cells #[.int .u64 0, .int .u64 0, .int .u64 0, .int .u64 0] 24)
 have LR := Has.new ((w.alloc (.cells #[.int .u64 (zb 0), .int .u64 (zb 1), .int .u64 (zb 2), .int .u64 (zb 3)] 24)).alloc (.cells #[.int .u64 (za 0), .int .u64 (za 1), .int .u64 (za 2), .int .u64 (za 3)] 24)) 24 #[.int .u64 0, .int .u64 0, .int .u64 0, .int .u64 0]
 simp only [World.size_alloc] at LR
 have k13 := LB.cell 0 _ rfl
 have k14 := LB.cell 1 _ rfl
 have k15 := LB.cell 2 _ rfl
 have k16 := LB.cell 3 _ rfl
 have k17 := LA.cell 0 _ rfl
 have k18 := LA.cell 1 _ rfl
 have k19 := LA.cell 2 _ rfl
 have k20 := LA.cell 3 _ rfl
 have k21 := LR.cell 0 _ rfl
 have k22 := LR.cell 1 _ rfl
 have k23 := LR.cell 2 _ rfl
 have k24 := LR.cell 3 _ rfl
 have Q := (Below.refl w.heap.size w)
 have Q := Q.alloc Q.size (.cells #[.int .u64 (zb 0), .int .u64 (zb 1), .int .u64 (zb 2), .int .u64 (zb 3)] 24)
 have HT := HT.alloc (.cells #[.int .u64 (zb 0), .int .u64 (zb 1), .int .u64 (zb 2), .int .u64 (zb 3)] 24)
 have Q := Q.alloc Q.size (.cells #[.int .u64 (za 0), .int .u64 (za 1), .int .u64 (za 2), .int .u64 (za 3)] 24)
 have HT := HT.alloc (.cells #[.int .u64 (za 0), .int .u64 (za 1), .int .u64 (za 2), .int .u64 (za 3)] 24)
 have Q := Q.alloc Q.size (.cells #[.int .u64 0, .int .u64 0, .int .u64 0, .int .u64 0] 24)
 have HT := HT.alloc (.cells #[.int .u64 0, .int .u64 0, .int .u64 0, .int .u64 0] 24)
 go_wp2_with fail
 clear k1 k2 k3 k4 k5 k6 k7 k8 k9 k10 k11 k12 k13 k14 k15 k16 k17 k18 k19 k20 k21 k22 k23 k24
 obtain ⟨W1, hW1⟩ : ∃ W1, (((w.alloc (.cells #[.int .u64 (zb 0), .int .u64 (zb 1), .int .u64 (zb 2), .int .u64 (zb 3)] 24)).alloc (.cells #[.int .u64 (za 0), .int .u64 (za 1), .int .u64 (za 2), .int .u64 (za 3)] 24)).alloc (.cells #[.int .u64 0, .int .u64 0, .int .u64 0, .int .u64 0] 24)) = W1 := ⟨_, rfl⟩
 rw [hW1] at LB LA LR Q HT ⊢
 clear hW1
 have k25 : ∀ x : Ext W1, x.w.cell? ⟨w.heap.size, 0, none⟩ = some (.int .u64 (zb 0)) := fun x => (LB.later x.below).cell 0 _ rfl
 have k26 : ∀ x : Ext W1, x.w.cell? ⟨w.heap.size, 1, none⟩ = some (.int .u64 (zb 1)) := fun x => (LB.later x.below).cell 1 _ rfl
 have k27 : ∀ x : Ext W1, x.w.cell? ⟨w.heap.size, 2, none⟩ = some (.int .u64 (zb 2)) := fun x => (LB.later x.below).cell 2 _ rfl
 have k28 : ∀ x : Ext W1, x.w.cell? ⟨w.heap.size, 3, none⟩ = some (.int .u64 (zb 3)) := fun x => (LB.later x.below).cell 3 _ rfl
 have k29 : ∀ x : Ext W1, x.w.cell? ⟨w.heap.size + 1, 0, none⟩ = some (.int .u64 (za 0)) := fun x => (LA.later x.below).cell 0 _ rfl
 have k30 : ∀ x : Ext W1, x.w.cell? ⟨w.heap.size + 1, 1, none⟩ = some (.int .u64 (za 1)) := fun x => (LA.later x.below).cell 1 _ rfl
 have k31 : ∀ x : Ext W1, x.w.cell? ⟨w.heap.size + 1, 2, none⟩ = some (.int .u64 (za 2)) := fun x => (LA.later x.below).cell 2 _ rfl
 have k32 : ∀ x : Ext W1, x.w.cell? ⟨w.heap.size + 1, 3, none⟩ = some (.int .u64 (za 3)) := fun x => (LA.later x.below).cell 3 _ rfl
 have k33 : ∀ x : Ext W1, x.w.cell? ⟨w.heap.size + 1 + 1, 0, none⟩ = some (.int .u64 0) := fun x => (LR.later x.below).cell 0 _ rfl
 have k34 : ∀ x : Ext W1, x.w.cell? ⟨w.heap.size + 1 + 1, 1, none⟩ = some (.int .u64 0) := fun x => (LR.later x.below).cell 1 _ rfl
 have k35 : ∀ x : Ext W1, x.w.cell? ⟨w.heap.size + 1 + 1, 2, none⟩ = some (.int .u64 0) := fun x => (LR.later x.below).cell 2 _ rfl
 have k36 : ∀ x : Ext W1, x.w.cell? ⟨w.heap.size + 1 + 1, 3, none⟩ = some (.int .u64 0) := fun x => (LR.later x.below).cell 3 _ rfl
 have hmx : Tryz.prog.follows .mixedOrders = true := by kernel_rfl
 refine wp_region_mix (C := Grows W1) [some true, some true, some true, some true, some true, none] hmx (by kernel_rfl) (by kernel_rfl) (grows_refl W1) ?_
 simp only [headOf, tailOf]
 repeat (go_big_quiet_step (first | (with_reducible exact Ret.at Hh1.out _) | (with_reducible exact RetT.at Hh2.out HT _)))
 refine wpQuiet_nil ?_
 rintro _ ⟨x37, rfl⟩
 clear k25 k26 k27 k28 k29 k30 k31 k32 k33 k34 k35 k36
 have LR := LR.later x37.below
 have Q := Q.trans (x37.below.mono Q.size)
 have r0 := LR.cell 0 _ rfl
 have z0 := LR.frozen 0
 have r1 := LR.cell 1 _ rfl
 have z1 := LR.frozen 1
 have r2 := LR.cell 2 _ rfl
 have z2 := LR.frozen 2
 have r3 := LR.cell 3 _ rfl
 have z3 := LR.frozen 3
 have HR := hid (((((LR.set 0 (.int .u64 (z 0))).set 1 (.int .u64 (z 1))).set 2 (.int .u64 (z 2))).set 3 (.int .u64 (z 3))))
 have HQ := hid (((((Q.setCell (p := ⟨w.heap.size + 1 + 1, 0, none⟩) (show w.heap.size ≤ _ by simp; first | done | omega) (.int .u64 (z 0))).setCell (p := ⟨w.heap.size + 1 + 1, 1, none⟩) (show w.heap.size ≤ _ by simp; first | done | omega) (.int .u64 (z 1))).setCell (p := ⟨w.heap.size + 1 + 1, 2, none⟩) (show w.heap.size ≤ _ by simp; first | done | omega) (.int .u64 (z 2))).setCell (p := ⟨w.heap.size + 1 + 1, 3, none⟩) (show w.heap.size ≤ _ by simp; first | done | omega) (.int .u64 (z 3))))
 clear Q LB LA LR
 go_wp2
 rw [calmPost_normal]
 go_wp2
 refine bodyPost_ret (results_word (m := z) rfl rfl HR.out) rfl ⟨rfl, HQ.out⟩
theorem pow_far (a b : Nat) (ha : W256 a) (h : 256 ≤ b) : wmod (a * 2 ^ b) = 0 ∧ a / 2 ^ b = 0 := by
 have e : (2 : Nat) ^ 256 = 115792089237316195423570985008687907853269984665640564039457584007913129639936 := by decide
 constructor
 ·obtain ⟨k, rfl⟩ : ∃ k, b = 256 + k := ⟨b - 256, by omega⟩
  unfold wmod
  rw [Nat.pow_add, e, ← Nat.mul_assoc, Nat.mul_right_comm]
  exact Nat.mul_mod_left _ _
 ·refine Nat.div_eq_of_lt (Nat.lt_of_lt_of_le ?_ (Nat.pow_le_pow_right (by omega) h))
  exact (w256_pow a).1 ha
theorem shl_ret (b a : Nat) (hb : W256 b) (ha : W256 a) : RetT Tryz.prog 126 #[wv b, wv a] (wv (wmod (a * 2 ^ b))) := by
 have h := moved_ret a (distN b : Int) ha (by have := distN_le b; omega)
 have e : mvN a (distN b : Int) = wmod (a * 2 ^ b) := by
  rw [mvN_up a _ ha]
  unfold distN maxI
  split
  ·rfl
  ·rw [(pow_far a 256 ha (by omega)).1, (pow_far a b ha (by omega)).1]
 rw [e] at h
 exact shl_walk (lim b) (lim a) (lim _) _ (dist_ret b hb) h
theorem shr_ret (b a : Nat) (hb : W256 b) (ha : W256 a) : RetT Tryz.prog 127 #[wv b, wv a] (wv (a / 2 ^ b)) := by
 have hl := distN_le b
 have h := moved_ret a (-(distN b : Int)) ha (by omega)
 have e : mvN a (-(distN b : Int)) = a / 2 ^ b := by
  rw [mvN_down a _ ha]
  unfold distN maxI
  split
  ·rfl
  ·rw [(pow_far a 256 ha (by omega)).2, (pow_far a b ha (by omega)).2]
 rw [e] at h
 exact shr_walk (lim b) (lim a) (lim _) _ (by omega) (dist_ret b hb) h
theorem less_walk (za zb zx zy : Nat → Int) (c : Int) (h1 : Ret Tryz.prog 124 #[.agg #[.int .u64 (za 0), .int .u64 (za 1), .int .u64 (za 2), .int .u64 (za 3)], .agg #[.int .u64 0, .int .u64 0, .int .u64 0, .int .u64 9223372036854775808]] (.agg #[.int .u64 (zx 0), .int .u64 (zx 1), .int .u64 (zx 2), .int .u64 (zx 3)])) (h2 : Ret Tryz.prog 124 #[.agg #[.int .u64 (zb 0), .int .u64 (zb 1), .int .u64 (zb 2), .int .u64 (zb 3)], .agg #[.int .u64 0, .int .u64 0, .int .u64 0, .int .u64 9223372036854775808]] (.agg #[.int .u64 (zy 0), .int .u64 (zy 1), .int .u64 (zy 2), .int .u64 (zy 3)])) (h3 : Ret Tryz.prog 148 #[.agg #[.int .u64 (zx 0), .int .u64 (zx 1), .int .u64 (zx 2), .int .u64 (zx 3)], .agg #[.int .u64 (zy 0), .int .u64 (zy 1), .int .u64 (zy 2), .int .u64 (zy 3)]] (.int .i64 c)) :
  Ret Tryz.prog 121 #[.agg #[.int .u64 (za 0), .int .u64 (za 1), .int .u64 (za 2), .int .u64 (za 3)], .agg #[.int .u64 (zb 0), .int .u64 (zb 1), .int .u64 (zb 2), .int .u64 (zb 3)]] (.bool (decide (c < 0))) := by
 intro w
 have Hh1 := hid h1
 have Hh2 := hid h2
 have Hh3 := hid h3
 clear h1 h2 h3
 go_enter Tryz.func121, Tryz.ntmps121
 have LA := Has.new w 24 #[.int .u64 (za 0), .int .u64 (za 1), .int .u64 (za 2), .int .u64 (za 3)]
 have k1 := LA.cell 0 _ rfl
 have k2 := LA.cell 1 _ rfl
 have k3 := LA.cell 2 _ rfl
 have k4 := LA.cell 3 _ rfl
 have LA := LA.alloc (.cells #[.int .u64 (zb 0), .int .u64 (zb 1), .int .u64 (zb 2), .int .u64 (zb 3)] 24)
 have LB := Has.new (w.alloc (.cells #[.int .u64 (za 0), .int .u64 (za 1), .int .u64 (za 2), .int .u64 (za 3)] 24)) 24 #[.int .u64 (zb 0), .int .u64 (zb 1), .int .u64 (zb 2), .int .u64 (zb 3)]
 simp only [World.size_alloc] at LB
 have k5 := LA.cell 0 _ rfl
 have k6 := LA.cell 1 _ rfl
 have k7 := LA.cell 2 _ rfl
 have k8 := LA.cell 3 _ rfl
 have k9 := LB.cell 0 _ rfl
 have k10 := LB.cell 1 _ rfl
 have k11 := LB.cell 2 _ rfl
 have k12 := LB.cell 3 _ rfl
 have LA := LA.alloc (.cells #[.int .u64 0, .int .u64 0, .int .u64 0, .int .u64 9223372036854775808] 24)
 have LB := LB.alloc (.cells #[.int .u64 0, .int .u64 0, .int .u64 0, .int .u64 9223372036854775808] 24)
 have LS := Has.new ((w.alloc (.cells #[.int .u64 (za 0), .int .u64 (za 1), .int .u64 (za 2), .int .u64 (za 3)] 24)).alloc (.cells #[.int .u64 (zb 0), .int .u64 (zb 1), .int .u64 (zb 2), .int .u64 (zb 3)] 24)) 24 #[.int .u64 0, .int .u64 0, .int .u64 0, .int .u64 9223372036854775808]
 simp only [World.size_alloc] at LS
 have k13 := LA.cell 0 _ rfl
 have k14 := LA.cell 1 _ rfl
 have k15 := LA.cell 2 _ rfl
 have k16 := LA.cell 3 _ rfl
 have k17 := LB.cell 0 _ rfl
 have k18 := LB.cell 1 _ rfl
 have k19 := LB.cell 2 _ rfl
 have k20 := LB.cell 3 _ rfl
 have k21 := LS.cell 0 _ rfl
 have k22 := LS.cell 1 _ rfl
 have k23 := LS.cell 2 _ rfl
 have k24 := LS.cell 3 _ rfl
 have Q := (Below.refl w.heap.size w)
 have Q := Q.alloc Q.size (.cells #[.int .u64 (za 0), .int .u64 (za 1), .int .u64 (za 2), .int .u64 (za 3)] 24)
 have Q := Q.alloc Q.size (.cells #[.int .u64 (zb 0), .int .u64 (zb 1), .int .u64 (zb 2), .int .u64 (zb 3)] 24)
 have Q := Q.alloc Q.size (.cells #[.int .u64 0, .int .u64 0, .int .u64 0, .int .u64 9223372036854775808] 24)
 go_wp2_with fail
 clear k1 k2 k3 k4 k5 k6 k7 k8 k9 k10 k11 k12 k13 k14 k15 k16 k17 k18 k19 k20 k21 k22 k23 k24
 obtain ⟨W1, hW1⟩ : ∃ W1, (((w.alloc (.cells #[.int .u64 (za 0), .int .u64 (za 1), .int .u64 (za 2), .int .u64 (za 3)] 24)).alloc (.cells #[.int .u64 (zb 0), .int .u64 (zb 1), .int .u64 (zb 2), .int .u64 (zb 3)] 24)).alloc (.cells #[.int .u64 0, .int .u64 0, .int .u64 0, .int .u64 9223372036854775808] 24)) = W1 := ⟨_, rfl⟩
 rw [hW1] at LA LB LS Q ⊢
 clear hW1
 have k25 : ∀ x : Ext W1, x.w.cell? ⟨w.heap.size, 0, none⟩ = some (.int .u64 (za 0)) := fun x => (LA.later x.below).cell 0 _ rfl
 have k26 : ∀ x : Ext W1, x.w.cell? ⟨w.heap.size, 1, none⟩ = some (.int .u64 (za 1)) := fun x => (LA.later x.below).cell 1 _ rfl
 have k27 : ∀ x : Ext W1, x.w.cell? ⟨w.heap.size, 2, none⟩ = some (.int .u64 (za 2)) := fun x => (LA.later x.below).cell 2 _ rfl
 have k28 : ∀ x : Ext W1, x.w.cell? ⟨w.heap.size, 3, none⟩ = some (.int .u64 (za 3)) := fun x => (LA.later x.below).cell 3 _ rfl
 have k29 : ∀ x : Ext W1, x.w.cell? ⟨w.heap.size + 1, 0, none⟩ = some (.int .u64 (zb 0)) := fun x => (LB.later x.below).cell 0 _ rfl
 have k30 : ∀ x : Ext W1, x.w.cell? ⟨w.heap.size + 1, 1, none⟩ = some (.int .u64 (zb 1)) := fun x => (LB.later x.below).cell 1 _ rfl
 have k31 : ∀ x : Ext W1, x.w.cell? ⟨w.heap.size + 1, 2, none⟩ = some (.int .u64 (zb 2)) := fun x => (LB.later x.below).cell 2 _ rfl
 have k32 : ∀ x : Ext W1, x.w.cell? ⟨w.heap.size + 1, 3, none⟩ = some (.int .u64 (zb 3)) := fun x => (LB.later x.below).cell 3 _ rfl
 have k33 : ∀ x : Ext W1, x.w.cell? ⟨w.heap.size + 1 + 1, 0, none⟩ = some (.int .u64 0) := fun x => (LS.later x.below).cell 0 _ rfl
 have k34 : ∀ x : Ext W1, x.w.cell? ⟨w.heap.size + 1 + 1, 1, none⟩ = some (.int .u64 0) := fun x => (LS.later x.below).cell 1 _ rfl
 have k35 : ∀ x : Ext W1, x.w.cell? ⟨w.heap.size + 1 + 1, 2, none⟩ = some (.int .u64 0) := fun x => (LS.later x.below).cell 2 _ rfl
 have k36 : ∀ x : Ext W1, x.w.cell? ⟨w.heap.size + 1 + 1, 3, none⟩ = some (.int .u64 9223372036854775808) := fun x => (LS.later x.below).cell 3 _ rfl
 clear LA LB LS
 have HQ := hid Q
 clear Q
 try simp only [List.append]
 refine wp_region_quick (C := Grows W1) (by kernel_rfl) (by kernel_rfl) (by kernel_rfl) (grows_refl W1) ?_
 repeat (go_big_quiet_step (first | (with_reducible exact Ret.at Hh1.out _) | (with_reducible exact Ret.at Hh2.out _) | (with_reducible exact Ret.at Hh3.out _)))
 refine wpQuiet_nil ?_
 rintro _ ⟨x, rfl⟩
 go_wp2
 go_ret
 exact ⟨rfl, HQ.out.trans (x.below.mono HQ.out.size)⟩
def S1 : Nat := 57896044618658097711785492504343953926634992332820282019728792003956564819968
theorem S1_lt : W256 S1 := by unfold W256 S1; omega
theorem wv_S1 : wv S1 = .agg #[.int .u64 0, .int .u64 0, .int .u64 0, .int .u64 9223372036854775808] := wv_of ⟨by decide, by decide, by decide, by decide⟩
def lessN (a b : Nat) : Bool := decide (wcmp (a ^^^ S1) (b ^^^ S1) < 0)
theorem less_ret (a b : Nat) (ha : W256 a) (hb : W256 b) : Ret Tryz.prog 121 #[wv a, wv b] (.bool (lessN a b)) := by
 have h1 := xor_ret a S1 ha S1_lt
 have h2 := xor_ret b S1 hb S1_lt
 have h3 := cmp_ret _ _ (xor_lt a S1 ha S1_lt) (xor_lt b S1 hb S1_lt)
 rw [wv_S1] at h1 h2
 exact less_walk (lim a) (lim b) (lim _) (lim _) _ h1 h2 h3
theorem sar_neg (zb za zn zs z : Nat → Int) (h1 : Ret Tryz.prog 121 #[.agg #[.int .u64 (za 0), .int .u64 (za 1), .int .u64 (za 2), .int .u64 (za 3)], .agg #[.int .u64 0, .int .u64 0, .int .u64 0, .int .u64 0]] (.bool true)) (h2 : Ret Tryz.prog 107 #[.agg #[.int .u64 (za 0), .int .u64 (za 1), .int .u64 (za 2), .int .u64 (za 3)]] (.agg #[.int .u64 (zn 0), .int .u64 (zn 1), .int .u64 (zn 2), .int .u64 (zn 3)])) (h3 : RetT Tryz.prog 127 #[.agg #[.int .u64 (zb 0), .int .u64 (zb 1), .int .u64 (zb 2), .int .u64 (zb 3)], .agg #[.int .u64 (zn 0), .int .u64 (zn 1), .int .u64 (zn 2), .int .u64 (zn 3)]] (.agg #[.int .u64 (zs 0), .int .u64 (zs 1), .int .u64 (zs 2), .int .u64 (zs 3)])) (h4 : Ret Tryz.prog 107 #[.agg #[.int .u64 (zs 0), .int .u64 (zs 1), .int .u64 (zs 2), .int .u64 (zs 3)]] (.agg #[.int .u64 (z 0), .int .u64 (z 1), .int .u64 (z 2), .int .u64 (z 3)])) :
  RetT Tryz.prog 128 #[.agg #[.int .u64 (zb 0), .int .u64 (zb 1), .int .u64 (zb 2), .int .u64 (zb 3)], .agg #[.int .u64 (za 0), .int .u64 (za 1), .int .u64 (za 2), .int .u64 (za 3)]] (.agg #[.int .u64 (z 0), .int .u64 (z 1), .int .u64 (z 2), .int .u64 (z 3)]) := by
 intro w HT
 have Hh1 := hid h1
 have Hh2 := hid h2
 have Hh3 := hid h3
 have Hh4 := hid h4
 clear h1 h2 h3 h4
 go_enter Tryz.func128, Tryz.ntmps128
 have LB := Has.new w 24 #[.int .u64 (zb 0), .int .u64 (zb 1), .int .u64 (zb 2), .int .u64 (zb 3)]
 have k1 := LB.cell 0 _ rfl
 have k2 := LB.cell 1 _ rfl
 have k3 := LB.cell 2 _ rfl
 have k4 := LB.cell 3 _ rfl
 have LB := LB.alloc (.cells #[.int .u64 (za 0), .int .u64 (za 1), .int .u64 (za 2), .int .u64 (za 3)] 24)
 have LA := Has.new (w.alloc (.cells #[.int .u64 (zb 0), .int .u64 (zb 1), .int .u64 (zb 2), .int .u64 (zb 3)] 24)) 24 #[.int .u64 (za 0), .int .u64 (za 1), .int .u64 (za 2), .int .u64 (za 3)]
 simp only [World.size_alloc] at LA
 have k5 := LB.cell 0 _ rfl
 have k6 := LB.cell 1 _ rfl
 have k7 := LB.cell 2 _ rfl
 have k8 := LB.cell 3 _ rfl
 have k9 := LA.cell 0 _ rfl
 have k10 := LA.cell 1 _ rfl
 have k11 := LA.cell 2 _ rfl
 have k12 := LA.cell 3 _ rfl
 have LB := LB.alloc (.cells #[.int .u64 0, .int .u64 0, .int .u64 0, .int .u64 0] 24)
 have LA := LA.alloc (.cells #[.int .u64 0, .int .u64 0, .int .u64 0, .int .u64 0] 24)
 have LR := Has.new ((w.alloc (.cells #[.int .u64 (zb 0), .int .u64 (zb 1), .int .u64 (zb 2), .int .u64 (zb 3)] 24)).alloc (.cells #[.int .u64 (za 0), .int .u64 (za 1), .int .u64 (za 2), .int .u64 (za 3)] 24)) 24 #[.int .u64 0, .int .u64 0, .int .u64 0, .int .u64 0]
 simp only [World.size_alloc] at LR
 have k13 := LB.cell 0 _ rfl
 have k14 := LB.cell 1 _ rfl
 have k15 := LB.cell 2 _ rfl
 have k16 := LB.cell 3 _ rfl
 have k17 := LA.cell 0 _ rfl
 have k18 := LA.cell 1 _ rfl
 have k19 := LA.cell 2 _ rfl
 have k20 := LA.cell 3 _ rfl
 have k21 := LR.cell 0 _ rfl
 have k22 := LR.cell 1 _ rfl
 have k23 := LR.cell 2 _ rfl
 have k24 := LR.cell 3 _ rfl
 have Q := (Below.refl w.heap.size w)
 have Q := Q.alloc Q.size (.cells #[.int .u64 (zb 0), .int .u64 (zb 1), .int .u64 (zb 2), .int .u64 (zb 3)] 24)
 have HT := HT.alloc (.cells #[.int .u64 (zb 0), .int .u64 (zb 1), .int .u64 (zb 2), .int .u64 (zb 3)] 24)
 have Q := Q.alloc Q.size (.cells #[.int .u64 (za 0), .int .u64 (za 1), .int .u64 (za 2), .int .u64 (za 3)] 24)
 have HT := HT.alloc (.cells #[.int .u64 (za 0), .int .u64 (za 1), .int .u64 (za 2), .int .u64 (za 3)] 24)
 have Q := Q.alloc Q.size (.cells #[.int .u64 0, .int .u64 0, .int .u64 0, .int .u64 0] 24)
 have HT := HT.alloc (.cells #[.int .u64 0, .int .u64 0, .int .u64 0, .int .u64 0] 24)
 go_wp2_with fail
 clear k1 k2 k3 k4 k5 k6 k7 k8 k9 k10 k11 k12 k13 k14 k15 k16 k17 k18 k19 k20 k21 k22 k23 k24
 obtain ⟨W1, hW1⟩ : ∃ W1, (((w.alloc (.cells #[.int .u64 (zb 0), .int .u64 (zb 1), .int .u64 (zb 2), .int .u64 (zb 3)] 24)).alloc (.cells #[.int .u64 (za 0), .int .u64 (za 1), .int .u64 (za 2), .int .u64 (za 3)] 24)).alloc (.cells #[.int .u64 0, .int .u64 0, .int .u64 0, .int .u64 0] 24)) = W1 := ⟨_, rfl⟩
 rw [hW1] at LB LA LR Q HT ⊢
 clear hW1
 refine (Hh1.out _).mono ?_
 rintro e v25 ⟨rfl, q⟩
 have HT := HT.later q
 have LB := LB.later q
 have LA := LA.later q
 have LR := LR.later q
 have Q := Q.trans (q.mono Q.size)
 clear q
 have k26 := LB.cell 0 _ rfl
 have k27 := LB.cell 1 _ rfl
 have k28 := LB.cell 2 _ rfl
 have k29 := LB.cell 3 _ rfl
 have k30 := LA.cell 0 _ rfl
 have k31 := LA.cell 1 _ rfl
 have k32 := LA.cell 2 _ rfl
 have k33 := LA.cell 3 _ rfl
 have k34 := LR.cell 0 _ rfl
 have k35 := LR.cell 1 _ rfl
 have k36 := LR.cell 2 _ rfl
 have k37 := LR.cell 3 _ rfl
 go_wp2_with fail
 clear k26 k27 k28 k29 k30 k31 k32 k33 k34 k35 k36 k37
 have k38 : ∀ x : Ext v25, x.w.cell? ⟨w.heap.size, 0, none⟩ = some (.int .u64 (zb 0)) := fun x => (LB.later x.below).cell 0 _ rfl
 have k39 : ∀ x : Ext v25, x.w.cell? ⟨w.heap.size, 1, none⟩ = some (.int .u64 (zb 1)) := fun x => (LB.later x.below).cell 1 _ rfl
 have k40 : ∀ x : Ext v25, x.w.cell? ⟨w.heap.size, 2, none⟩ = some (.int .u64 (zb 2)) := fun x => (LB.later x.below).cell 2 _ rfl
 have k41 : ∀ x : Ext v25, x.w.cell? ⟨w.heap.size, 3, none⟩ = some (.int .u64 (zb 3)) := fun x => (LB.later x.below).cell 3 _ rfl
 have k42 : ∀ x : Ext v25, x.w.cell? ⟨w.heap.size + 1, 0, none⟩ = some (.int .u64 (za 0)) := fun x => (LA.later x.below).cell 0 _ rfl
 have k43 : ∀ x : Ext v25, x.w.cell? ⟨w.heap.size + 1, 1, none⟩ = some (.int .u64 (za 1)) := fun x => (LA.later x.below).cell 1 _ rfl
 have k44 : ∀ x : Ext v25, x.w.cell? ⟨w.heap.size + 1, 2, none⟩ = some (.int .u64 (za 2)) := fun x => (LA.later x.below).cell 2 _ rfl
 have k45 : ∀ x : Ext v25, x.w.cell? ⟨w.heap.size + 1, 3, none⟩ = some (.int .u64 (za 3)) := fun x => (LA.later x.below).cell 3 _ rfl
 have k46 : ∀ x : Ext v25, x.w.cell? ⟨w.heap.size + 1 + 1, 0, none⟩ = some (.int .u64 0) := fun x => (LR.later x.below).cell 0 _ rfl
 have k47 : ∀ x : Ext v25, x.w.cell? ⟨w.heap.size + 1 + 1, 1, none⟩ = some (.int .u64 0) := fun x => (LR.later x.below).cell 1 _ rfl
 have k48 : ∀ x : Ext v25, x.w.cell? ⟨w.heap.size + 1 + 1, 2, none⟩ = some (.int .u64 0) := fun x => (LR.later x.below).cell 2 _ rfl
 have k49 : ∀ x : Ext v25, x.w.cell? ⟨w.heap.size + 1 + 1, 3, none⟩ = some (.int .u64 0) := fun x => (LR.later x.below).cell 3 _ rfl
 have hmx : Tryz.prog.follows .mixedOrders = true := by kernel_rfl
 refine wp_region_mix (C := Grows v25) [some true, some true, some true, some true, some true, none] hmx (by kernel_rfl) (by kernel_rfl) (grows_refl v25) ?_
 simp only [headOf, tailOf]
 repeat (go_big_quiet_step (first | (with_reducible exact Ret.at Hh2.out _) | (with_reducible exact RetT.at Hh3.out HT _) | (with_reducible exact Ret.at Hh4.out _)))
 refine wpQuiet_nil ?_
 rintro _ ⟨x50, rfl⟩
 clear k38 k39 k40 k41 k42 k43 k44 k45 k46 k47 k48 k49
 have LR := LR.later x50.below
 have Q := Q.trans (x50.below.mono Q.size)
 have r0 := LR.cell 0 _ rfl
 have z0 := LR.frozen 0
 have r1 := LR.cell 1 _ rfl
 have z1 := LR.frozen 1
 have r2 := LR.cell 2 _ rfl
 have z2 := LR.frozen 2
 have r3 := LR.cell 3 _ rfl
 have z3 := LR.frozen 3
 have HR := hid (((((LR.set 0 (.int .u64 (z 0))).set 1 (.int .u64 (z 1))).set 2 (.int .u64 (z 2))).set 3 (.int .u64 (z 3))))
 have HQ := hid (((((Q.setCell (p := ⟨w.heap.size + 1 + 1, 0, none⟩) (show w.heap.size ≤ _ by simp; first | done | omega) (.int .u64 (z 0))).setCell (p := ⟨w.heap.size + 1 + 1, 1, none⟩) (show w.heap.size ≤ _ by simp; first | done | omega) (.int .u64 (z 1))).setCell (p := ⟨w.heap.size + 1 + 1, 2, none⟩) (show w.heap.size ≤ _ by simp; first | done | omega) (.int .u64 (z 2))).setCell (p := ⟨w.heap.size + 1 + 1, 3, none⟩) (show w.heap.size ≤ _ by simp; first | done | omega) (.int .u64 (z 3))))
 clear Q LB LA LR
 go_wp2
 rw [calmPost_normal]
 go_wp2
 refine bodyPost_ret (results_word (m := z) rfl rfl HR.out) rfl ⟨rfl, HQ.out⟩
theorem sar_pos (zb za z : Nat → Int) (h1 : Ret Tryz.prog 121 #[.agg #[.int .u64 (za 0), .int .u64 (za 1), .int .u64 (za 2), .int .u64 (za 3)], .agg #[.int .u64 0, .int .u64 0, .int .u64 0, .int .u64 0]] (.bool false)) (h2 : RetT Tryz.prog 127 #[.agg #[.int .u64 (zb 0), .int .u64 (zb 1), .int .u64 (zb 2), .int .u64 (zb 3)], .agg #[.int .u64 (za 0), .int .u64 (za 1), .int .u64 (za 2), .int .u64 (za 3)]] (.agg #[.int .u64 (z 0), .int .u64 (z 1), .int .u64 (z 2), .int .u64 (z 3)])) :
  RetT Tryz.prog 128 #[.agg #[.int .u64 (zb 0), .int .u64 (zb 1), .int .u64 (zb 2), .int .u64 (zb 3)], .agg #[.int .u64 (za 0), .int .u64 (za 1), .int .u64 (za 2), .int .u64 (za 3)]] (.agg #[.int .u64 (z 0), .int .u64 (z 1), .int .u64 (z 2), .int .u64 (z 3)]) := by
 intro w HT
 have Hh1 := hid h1
 have Hh2 := hid h2
 clear h1 h2
 go_enter Tryz.func128, Tryz.ntmps128
 have LB := Has.new w 24 #[.int .u64 (zb 0), .int .u64 (zb 1), .int .u64 (zb 2), .int .u64 (zb 3)]
 have k1 := LB.cell 0 _ rfl
 have k2 := LB.cell 1 _ rfl
 have k3 := LB.cell 2 _ rfl
 have k4 := LB.cell 3 _ rfl
 have LB := LB.alloc (.cells #[.int .u64 (za 0), .int .u64 (za 1), .int .u64 (za 2), .int .u64 (za 3)] 24)
 have LA := Has.new (w.alloc (.cells #[.int .u64 (zb 0), .int .u64 (zb 1), .int .u64 (zb 2), .int .u64 (zb 3)] 24)) 24 #[.int .u64 (za 0), .int .u64 (za 1), .int .u64 (za 2), .int .u64 (za 3)]
 simp only [World.size_alloc] at LA
 have k5 := LB.cell 0 _ rfl
 have k6 := LB.cell 1 _ rfl
 have k7 := LB.cell 2 _ rfl
 have k8 := LB.cell 3 _ rfl
 have k9 := LA.cell 0 _ rfl
 have k10 := LA.cell 1 _ rfl
 have k11 := LA.cell 2 _ rfl
 have k12 := LA.cell 3 _ rfl
 have LB := LB.alloc (.cells #[.int .u64 0, .int .u64 0, .int .u64 0, .int .u64 0] 24)
 have LA := LA.alloc (.cells #[.int .u64 0, .int .u64 0, .int .u64 0, .int .u64 0] 24)
 have LR := Has.new ((w.alloc (.cells #[.int .u64 (zb 0), .int .u64 (zb 1), .int .u64 (zb 2), .int .u64 (zb 3)] 24)).alloc (.cells #[.int .u64 (za 0), .int .u64 (za 1), .int .u64 (za 2), .int .u64 (za 3)] 24)) 24 #[.int .u64 0, .int .u64 0, .int .u64 0, .int .u64 0]
 simp only [World.size_alloc] at LR
 have k13 := LB.cell 0 _ rfl
 have k14 := LB.cell 1 _ rfl
 have k15 := LB.cell 2 _ rfl
 have k16 := LB.cell 3 _ rfl
 have k17 := LA.cell 0 _ rfl
 have k18 := LA.cell 1 _ rfl
 have k19 := LA.cell 2 _ rfl
 have k20 := LA.cell 3 _ rfl
 have k21 := LR.cell 0 _ rfl
 have k22 := LR.cell 1 _ rfl
 have k23 := LR.cell 2 _ rfl
 have k24 := LR.cell 3 _ rfl
 have Q := (Below.refl w.heap.size w)
 have Q := Q.alloc Q.size (.cells #[.int .u64 (zb 0), .int .u64 (zb 1), .int .u64 (zb 2), .int .u64 (zb 3)] 24)
 have HT := HT.alloc (.cells #[.int .u64 (zb 0), .int .u64 (zb 1), .int .u64 (zb 2), .int .u64 (zb 3)] 24)
 have Q := Q.alloc Q.size (.cells #[.int .u64 (za 0), .int .u64 (za 1), .int .u64 (za 2), .int .u64 (za 3)] 24)
 have HT := HT.alloc (.cells #[.int .u64 (za 0), .int .u64 (za 1), .int .u64 (za 2), .int .u64 (za 3)] 24)
 have Q := Q.alloc Q.size (.cells #[.int .u64 0, .int .u64 0, .int .u64 0, .int .u64 0] 24)
 have HT := HT.alloc (.cells #[.int .u64 0, .int .u64 0, .int .u64 0, .int .u64 0] 24)
 go_wp2_with fail
 clear k1 k2 k3 k4 k5 k6 k7 k8 k9 k10 k11 k12 k13 k14 k15 k16 k17 k18 k19 k20 k21 k22 k23 k24
 obtain ⟨W1, hW1⟩ : ∃ W1, (((w.alloc (.cells #[.int .u64 (zb 0), .int .u64 (zb 1), .int .u64 (zb 2), .int .u64 (zb 3)] 24)).alloc (.cells #[.int .u64 (za 0), .int .u64 (za 1), .int .u64 (za 2), .int .u64 (za 3)] 24)).alloc (.cells #[.int .u64 0, .int .u64 0, .int .u64 0, .int .u64 0] 24)) = W1 := ⟨_, rfl⟩
 rw [hW1] at LB LA LR Q HT ⊢
 clear hW1
 refine (Hh1.out _).mono ?_
 rintro e v25 ⟨rfl, q⟩
 have HT := HT.later q
 have LB := LB.later q
 have LA := LA.later q
 have LR := LR.later q
 have Q := Q.trans (q.mono Q.size)
 clear q
 have k26 := LB.cell 0 _ rfl
 have k27 := LB.cell 1 _ rfl
 have k28 := LB.cell 2 _ rfl
 have k29 := LB.cell 3 _ rfl
 have k30 := LA.cell 0 _ rfl
 have k31 := LA.cell 1 _ rfl
 have k32 := LA.cell 2 _ rfl
 have k33 := LA.cell 3 _ rfl
 have k34 := LR.cell 0 _ rfl
 have k35 := LR.cell 1 _ rfl
 have k36 := LR.cell 2 _ rfl
 have k37 := LR.cell 3 _ rfl
 go_wp2_with fail
 clear k26 k27 k28 k29 k30 k31 k32 k33 k34 k35 k36 k37
 refine (Hh2.out _ HT).mono ?_
 rintro e v38 ⟨rfl, q⟩
 have HT := HT.later q
 have LB := LB.later q
 have LA := LA.later q
 have LR := LR.later q
 have Q := Q.trans (q.mono Q.size)
 clear q
 have r0 := LR.cell 0 _ rfl
 have z0 := LR.frozen 0
 have r1 := LR.cell 1 _ rfl
 have z1 := LR.frozen 1
 have r2 := LR.cell 2 _ rfl
 have z2 := LR.frozen 2
 have r3 := LR.cell 3 _ rfl
 have z3 := LR.frozen 3
 have k39 := LB.cell 0 _ rfl
 have k40 := LB.cell 1 _ rfl
 have k41 := LB.cell 2 _ rfl
 have k42 := LB.cell 3 _ rfl
 have k43 := LA.cell 0 _ rfl
 have k44 := LA.cell 1 _ rfl
 have k45 := LA.cell 2 _ rfl
 have k46 := LA.cell 3 _ rfl
 have HR := hid (((((LR.set 0 (.int .u64 (z 0))).set 1 (.int .u64 (z 1))).set 2 (.int .u64 (z 2))).set 3 (.int .u64 (z 3))))
 have HQ := hid (((((Q.setCell (p := ⟨w.heap.size + 1 + 1, 0, none⟩) (show w.heap.size ≤ _ by simp; first | done | omega) (.int .u64 (z 0))).setCell (p := ⟨w.heap.size + 1 + 1, 1, none⟩) (show w.heap.size ≤ _ by simp; first | done | omega) (.int .u64 (z 1))).setCell (p := ⟨w.heap.size + 1 + 1, 2, none⟩) (show w.heap.size ≤ _ by simp; first | done | omega) (.int .u64 (z 2))).setCell (p := ⟨w.heap.size + 1 + 1, 3, none⟩) (show w.heap.size ≤ _ by simp; first | done | omega) (.int .u64 (z 3))))
 clear Q LB LA LR
 go_wp2
 refine bodyPost_ret (results_word (m := z) rfl rfl HR.out) rfl ⟨rfl, HQ.out⟩
def sarN (b a : Nat) : Nat := if lessN a 0 = true then ((a ^^^ M1) / 2 ^ b) ^^^ M1 else a / 2 ^ b
theorem div_lt (a k : Nat) (ha : W256 a) : W256 (a / k) := Nat.lt_of_le_of_lt (Nat.div_le_self a k) ha
theorem sarN_lt (b a : Nat) (ha : W256 a) : W256 (sarN b a) := by
 unfold sarN
 split
 ·exact xor_lt _ _ (div_lt _ _ (xor_lt _ _ ha M1_lt)) M1_lt
 ·exact div_lt _ _ ha
theorem wv_0 : wv 0 = .agg #[.int .u64 0, .int .u64 0, .int .u64 0, .int .u64 0] := wv_of ⟨by decide, by decide, by decide, by decide⟩
theorem sar_ret (b a : Nat) (hb : W256 b) (ha : W256 a) : RetT Tryz.prog 128 #[wv b, wv a] (wv (sarN b a)) := by
 have h1 := less_ret a 0 ha (by unfold W256; omega)
 rw [wv_0] at h1
 unfold sarN
 cases h : lessN a 0 with
 | true =>
  rw [h] at h1
  rw [if_pos rfl]
  exact sar_neg (lim b) (lim a) (lim _) (lim _) (lim _) h1 (not_ret a ha) (shr_ret b _ hb (xor_lt _ _ ha M1_lt)) (not_ret _ (div_lt _ _ (xor_lt _ _ ha M1_lt)))
 | false =>
  rw [h] at h1
  rw [if_neg (by simp)]
  exact sar_pos (lim b) (lim a) (lim _) h1 (shr_ret b a hb ha)
def pickN (c m : Int) : Int := (if c < 0 then -(c + 1) else c) % m
theorem pickN_range (c m : Int) (hm : 0 < m) : 0 ≤ pickN c m ∧ pickN c m < m := by
 unfold pickN
 exact ⟨Int.emod_nonneg _ (by omega), Int.emod_lt_of_pos _ hm⟩
theorem ofN_nat (n : Nat) : ofN (n : Int) = n := by unfold ofN; rw [if_neg (by omega)]; omega
end Go.Proofs.YtnkhmgmganejmaaGreatDoor
