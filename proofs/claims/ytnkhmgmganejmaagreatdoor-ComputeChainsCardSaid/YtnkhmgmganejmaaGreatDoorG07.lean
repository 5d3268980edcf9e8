/- Part. -/
import Derived.Test.YtnkhmgmganejmaaGreatDoorG06
import Derived.Test.YtnkhmgmganejmaaGreatDoorG05
set_option maxRecDepth 100000
set_option maxHeartbeats 16000000
namespace Go.Proofs.YtnkhmgmganejmaaGreatDoor
open Go Go.RowKit
attribute [local go_sem] Oper.semAt_some Grows wide_fn
theorem meth_and (v : Value) (W : World) : (method 299 136 v "railhead/bit.of").run Tryz.prog W = .ok (208, v) W := by kernel_rfl
theorem of_and (x y z : Int) (h : bits .and .u64 x y = z) : Ret Tryz.prog 208 #[.agg #[], .int .u64 x, .int .u64 y] (.int .u64 z) := by
 intro w
 subst h
 go_enter Tryz.func208, Tryz.ntmps208
 go_wp2
 go_ret
 exact ⟨rfl, (Below.refl _ _).alloc (Nat.le_refl _) _⟩
theorem meth_or (v : Value) (W : World) : (method 299 137 v "railhead/bit.of").run Tryz.prog W = .ok (209, v) W := by kernel_rfl
theorem of_or (x y z : Int) (h : bits .or .u64 x y = z) : Ret Tryz.prog 209 #[.agg #[], .int .u64 x, .int .u64 y] (.int .u64 z) := by
 intro w
 subst h
 go_enter Tryz.func209, Tryz.ntmps209
 go_wp2
 go_ret
 exact ⟨rfl, (Below.refl _ _).alloc (Nat.le_refl _) _⟩
theorem meth_xor (v : Value) (W : World) : (method 299 138 v "railhead/bit.of").run Tryz.prog W = .ok (210, v) W := by kernel_rfl
theorem of_xor (x y z : Int) (h : bits .xor .u64 x y = z) : Ret Tryz.prog 210 #[.agg #[], .int .u64 x, .int .u64 y] (.int .u64 z) := by
 intro w
 subst h
 go_enter Tryz.func210, Tryz.ntmps210
 go_wp2
 go_ret
 exact ⟨rfl, (Below.refl _ _).alloc (Nat.le_refl _) _⟩
theorem pair_and (a b : Nat) (_ha : W256 a) (_hb : W256 b) : Ret Tryz.prog 150 #[wv a, wv b] (wv (a &&& b)) := by
 intro w
 have O0 := hid (of_and (lim a 0) (lim b 0) (lim (a &&& b) 0) (bits_and_lim a b 0 (by omega)))
 have O1 := hid (of_and (lim a 1) (lim b 1) (lim (a &&& b) 1) (bits_and_lim a b 1 (by omega)))
 have O2 := hid (of_and (lim a 2) (lim b 2) (lim (a &&& b) 2) (bits_and_lim a b 2 (by omega)))
 have O3 := hid (of_and (lim a 3) (lim b 3) (lim (a &&& b) 3) (bits_and_lim a b 3 (by omega)))
 unfold wv
 refine (callsIn_wide (n := 4)).1 ?_
 refine callsIn_of_wp_marks Tryz.func150 rfl trivial ?_ rfl
 simp only [Tryz.ntmps150, List.size_toArray, List.length_cons, List.length_nil, Nat.reduceAdd, Nat.reduceSub, Array.replicate_succ, Array.replicate_zero, List.push_toArray, List.append_toArray, List.nil_append, List.cons_append]
 have LA := Has.new w 24 #[.int .u64 (lim a 0), .int .u64 (lim a 1), .int .u64 (lim a 2), .int .u64 (lim a 3)]
 have LA := LA.alloc (.cells #[.int .u64 (lim b 0), .int .u64 (lim b 1), .int .u64 (lim b 2), .int .u64 (lim b 3)] 24)
 have LA := LA.alloc (.cells #[.int .u64 0, .int .u64 0, .int .u64 0, .int .u64 0] 24)
 have LA := LA.alloc (.cells #[.int .u64 0, .int .u64 0, .int .u64 0, .int .u64 0] 24)
 have LA := LA.alloc (.cells #[] 136)
 have LB := Has.new (w.alloc (.cells #[.int .u64 (lim a 0), .int .u64 (lim a 1), .int .u64 (lim a 2), .int .u64 (lim a 3)] 24)) 24 #[.int .u64 (lim b 0), .int .u64 (lim b 1), .int .u64 (lim b 2), .int .u64 (lim b 3)]
 simp only [World.size_alloc] at LB
 have LB := LB.alloc (.cells #[.int .u64 0, .int .u64 0, .int .u64 0, .int .u64 0] 24)
 have LB := LB.alloc (.cells #[.int .u64 0, .int .u64 0, .int .u64 0, .int .u64 0] 24)
 have LB := LB.alloc (.cells #[] 136)
 have LR := Has.new ((w.alloc (.cells #[.int .u64 (lim a 0), .int .u64 (lim a 1), .int .u64 (lim a 2), .int .u64 (lim a 3)] 24)).alloc (.cells #[.int .u64 (lim b 0), .int .u64 (lim b 1), .int .u64 (lim b 2), .int .u64 (lim b 3)] 24)) 24 #[.int .u64 0, .int .u64 0, .int .u64 0, .int .u64 0]
 simp only [World.size_alloc] at LR
 have LR := LR.alloc (.cells #[.int .u64 0, .int .u64 0, .int .u64 0, .int .u64 0] 24)
 have LR := LR.alloc (.cells #[] 136)
 have LM := Has.new (((w.alloc (.cells #[.int .u64 (lim a 0), .int .u64 (lim a 1), .int .u64 (lim a 2), .int .u64 (lim a 3)] 24)).alloc (.cells #[.int .u64 (lim b 0), .int .u64 (lim b 1), .int .u64 (lim b 2), .int .u64 (lim b 3)] 24)).alloc (.cells #[.int .u64 0, .int .u64 0, .int .u64 0, .int .u64 0] 24)) 24 #[.int .u64 0, .int .u64 0, .int .u64 0, .int .u64 0]
 simp only [World.size_alloc] at LM
 have LM := LM.alloc (.cells #[] 136)
 have LS := Has.new ((((w.alloc (.cells #[.int .u64 (lim a 0), .int .u64 (lim a 1), .int .u64 (lim a 2), .int .u64 (lim a 3)] 24)).alloc (.cells #[.int .u64 (lim b 0), .int .u64 (lim b 1), .int .u64 (lim b 2), .int .u64 (lim b 3)] 24)).alloc (.cells #[.int .u64 0, .int .u64 0, .int .u64 0, .int .u64 0] 24)).alloc (.cells #[.int .u64 0, .int .u64 0, .int .u64 0, .int .u64 0] 24)) 136 #[]
 simp only [World.size_alloc] at LS
 have Q := Below.refl w.heap.size w
 have Q := Q.alloc Q.size (.cells #[.int .u64 (lim a 0), .int .u64 (lim a 1), .int .u64 (lim a 2), .int .u64 (lim a 3)] 24)
 have Q := Q.alloc Q.size (.cells #[.int .u64 (lim b 0), .int .u64 (lim b 1), .int .u64 (lim b 2), .int .u64 (lim b 3)] 24)
 have Q := Q.alloc Q.size (.cells #[.int .u64 0, .int .u64 0, .int .u64 0, .int .u64 0] 24)
 have Q := Q.alloc Q.size (.cells #[.int .u64 0, .int .u64 0, .int .u64 0, .int .u64 0] 24)
 have Q := Q.alloc Q.size (.cells #[] 136)
 have k0 := LA.cell 0 _ rfl
 have k1 := LA.cell 1 _ rfl
 have k2 := LA.cell 2 _ rfl
 have k3 := LA.cell 3 _ rfl
 have mt := meth_and
 have hmx : Tryz.prog.follows .mixedOrders = true := by kernel_rfl
 gi_wp2_with fail
 clear k0 k1 k2 k3
 obtain ⟨W0, hW0⟩ : ∃ W0, (((((w.alloc (.cells #[.int .u64 (lim a 0), .int .u64 (lim a 1), .int .u64 (lim a 2), .int .u64 (lim a 3)] 24)).alloc (.cells #[.int .u64 (lim b 0), .int .u64 (lim b 1), .int .u64 (lim b 2), .int .u64 (lim b 3)] 24)).alloc (.cells #[.int .u64 0, .int .u64 0, .int .u64 0, .int .u64 0] 24)).alloc (.cells #[.int .u64 0, .int .u64 0, .int .u64 0, .int .u64 0] 24)).alloc (.cells #[] 136)) = W0 := ⟨_, rfl⟩
 rw [hW0] at LB LR LM LS Q ⊢
 clear hW0 LA _ha _hb
 have i0 : ∀ w, (Instr.index 24 (.agg #[.int .u64 (lim a 0), .int .u64 (lim a 1), .int .u64 (lim a 2), .int .u64 (lim a 3)]) (.int .i64 0)).run Tryz.prog w = .ok (.int .u64 (lim a 0)) w := fun _ => by kernel_rfl
 have i1 : ∀ w, (Instr.index 24 (.agg #[.int .u64 (lim a 0), .int .u64 (lim a 1), .int .u64 (lim a 2), .int .u64 (lim a 3)]) (.int .i64 1)).run Tryz.prog w = .ok (.int .u64 (lim a 1)) w := fun _ => by kernel_rfl
 have i2 : ∀ w, (Instr.index 24 (.agg #[.int .u64 (lim a 0), .int .u64 (lim a 1), .int .u64 (lim a 2), .int .u64 (lim a 3)]) (.int .i64 2)).run Tryz.prog w = .ok (.int .u64 (lim a 2)) w := fun _ => by kernel_rfl
 have i3 : ∀ w, (Instr.index 24 (.agg #[.int .u64 (lim a 0), .int .u64 (lim a 1), .int .u64 (lim a 2), .int .u64 (lim a 3)]) (.int .i64 3)).run Tryz.prog w = .ok (.int .u64 (lim a 3)) w := fun _ => by kernel_rfl
 refine wpIn_loop_rounds 5 ?_
 rw [roundsIn_succ]
 gi_wp2_with fail
 have kB0 : ∀ x : Ext W0, x.w.cell? ⟨w.heap.size + 1, 0, none⟩ = some (.int .u64 (lim b 0)) := fun x => (LB.later x.below).cell 0 _ rfl
 have kB1 : ∀ x : Ext W0, x.w.cell? ⟨w.heap.size + 1, 1, none⟩ = some (.int .u64 (lim b 1)) := fun x => (LB.later x.below).cell 1 _ rfl
 have kB2 : ∀ x : Ext W0, x.w.cell? ⟨w.heap.size + 1, 2, none⟩ = some (.int .u64 (lim b 2)) := fun x => (LB.later x.below).cell 2 _ rfl
 have kB3 : ∀ x : Ext W0, x.w.cell? ⟨w.heap.size + 1, 3, none⟩ = some (.int .u64 (lim b 3)) := fun x => (LB.later x.below).cell 3 _ rfl
 have kM0 : ∀ x : Ext W0, x.w.cell? ⟨w.heap.size + 1 + 1 + 1, 0, none⟩ = some (.int .u64 0) := fun x => (LM.later x.below).cell 0 _ rfl
 have kM1 : ∀ x : Ext W0, x.w.cell? ⟨w.heap.size + 1 + 1 + 1, 1, none⟩ = some (.int .u64 0) := fun x => (LM.later x.below).cell 1 _ rfl
 have kM2 : ∀ x : Ext W0, x.w.cell? ⟨w.heap.size + 1 + 1 + 1, 2, none⟩ = some (.int .u64 0) := fun x => (LM.later x.below).cell 2 _ rfl
 have kM3 : ∀ x : Ext W0, x.w.cell? ⟨w.heap.size + 1 + 1 + 1, 3, none⟩ = some (.int .u64 0) := fun x => (LM.later x.below).cell 3 _ rfl
 refine wpIn_region_mix (C := Grows W0) free_wide [some true, some true, some true, some true, some true, some true, some true, some true, some true, none] hmx (by kernel_rfl) (by kernel_rfl) (grows_refl W0) ?_
 simp only [headOf, tailOf]
 repeat (go_big_quiet_step (first | (with_reducible exact Ret.at O0.out _)))
 refine wpQuiet_nil ?_
 rintro _ ⟨x0, rfl⟩
 clear kB0 kB1 kB2 kB3 kM0 kM1 kM2 kM3
 have LB := LB.later x0.below
 have LR := LR.later x0.below
 have LM := LM.later x0.below
 have LS := LS.later x0.below
 have Q := Q.trans (x0.below.mono Q.size)
 have kc := LM.cell 0 _ rfl
 have kz := LM.frozen 0
 go_wp2
 rw [calmPost_normal]
 clear kc kz
 have LB := LB.other (p := ⟨w.heap.size + 1 + 1 + 1, 0, none⟩) (by simp) (.int .u64 (lim (a &&& b) 0))
 have LR := LR.other (p := ⟨w.heap.size + 1 + 1 + 1, 0, none⟩) (by simp) (.int .u64 (lim (a &&& b) 0))
 have LS := LS.other (p := ⟨w.heap.size + 1 + 1 + 1, 0, none⟩) (by simp) (.int .u64 (lim (a &&& b) 0))
 have LM := LM.set 0 (.int .u64 (lim (a &&& b) 0))
 have Q := Q.setCell (p := ⟨w.heap.size + 1 + 1 + 1, 0, none⟩) (show w.heap.size ≤ _ by simp; omega) (.int .u64 (lim (a &&& b) 0))
 obtain ⟨W1, hW⟩ : ∃ W1, x0.w.setCell ⟨w.heap.size + 1 + 1 + 1, 0, none⟩ (.int .u64 (lim (a &&& b) 0)) = W1 := ⟨_, rfl⟩
 rw [hW] at LB LR LM LS Q ⊢
 clear hW
 gi_wp2_with fail
 replace LM : Has W1 (w.heap.size + 1 + 1 + 1) 24 #[.int .u64 (lim (a &&& b) 0), .int .u64 0, .int .u64 0, .int .u64 0] := LM
 rw [roundsIn_succ]
 gi_wp2_with fail
 have kB0 : ∀ x : Ext W1, x.w.cell? ⟨w.heap.size + 1, 0, none⟩ = some (.int .u64 (lim b 0)) := fun x => (LB.later x.below).cell 0 _ rfl
 have kB1 : ∀ x : Ext W1, x.w.cell? ⟨w.heap.size + 1, 1, none⟩ = some (.int .u64 (lim b 1)) := fun x => (LB.later x.below).cell 1 _ rfl
 have kB2 : ∀ x : Ext W1, x.w.cell? ⟨w.heap.size + 1, 2, none⟩ = some (.int .u64 (lim b 2)) := fun x => (LB.later x.below).cell 2 _ rfl
 have kB3 : ∀ x : Ext W1, x.w.cell? ⟨w.heap.size + 1, 3, none⟩ = some (.int .u64 (lim b 3)) := fun x => (LB.later x.below).cell 3 _ rfl
 have kM0 : ∀ x : Ext W1, x.w.cell? ⟨w.heap.size + 1 + 1 + 1, 0, none⟩ = some (.int .u64 (lim (a &&& b) 0)) := fun x => (LM.later x.below).cell 0 _ rfl
 have kM1 : ∀ x : Ext W1, x.w.cell? ⟨w.heap.size + 1 + 1 + 1, 1, none⟩ = some (.int .u64 0) := fun x => (LM.later x.below).cell 1 _ rfl
 have kM2 : ∀ x : Ext W1, x.w.cell? ⟨w.heap.size + 1 + 1 + 1, 2, none⟩ = some (.int .u64 0) := fun x => (LM.later x.below).cell 2 _ rfl
 have kM3 : ∀ x : Ext W1, x.w.cell? ⟨w.heap.size + 1 + 1 + 1, 3, none⟩ = some (.int .u64 0) := fun x => (LM.later x.below).cell 3 _ rfl
 refine wpIn_region_mix (C := Grows W1) free_wide [some true, some true, some true, some true, some true, some true, some true, some true, some true, none] hmx (by kernel_rfl) (by kernel_rfl) (grows_refl W1) ?_
 simp only [headOf, tailOf]
 repeat (go_big_quiet_step (first | (with_reducible exact Ret.at O1.out _)))
 refine wpQuiet_nil ?_
 rintro _ ⟨x1, rfl⟩
 clear kB0 kB1 kB2 kB3 kM0 kM1 kM2 kM3
 have LB := LB.later x1.below
 have LR := LR.later x1.below
 have LM := LM.later x1.below
 have LS := LS.later x1.below
 have Q := Q.trans (x1.below.mono Q.size)
 have kc := LM.cell 1 _ rfl
 have kz := LM.frozen 1
 go_wp2
 rw [calmPost_normal]
 clear kc kz
 have LB := LB.other (p := ⟨w.heap.size + 1 + 1 + 1, 1, none⟩) (by simp) (.int .u64 (lim (a &&& b) 1))
 have LR := LR.other (p := ⟨w.heap.size + 1 + 1 + 1, 1, none⟩) (by simp) (.int .u64 (lim (a &&& b) 1))
 have LS := LS.other (p := ⟨w.heap.size + 1 + 1 + 1, 1, none⟩) (by simp) (.int .u64 (lim (a &&& b) 1))
 have LM := LM.set 1 (.int .u64 (lim (a &&& b) 1))
 have Q := Q.setCell (p := ⟨w.heap.size + 1 + 1 + 1, 1, none⟩) (show w.heap.size ≤ _ by simp; omega) (.int .u64 (lim (a &&& b) 1))
 obtain ⟨W2, hW⟩ : ∃ W2, x1.w.setCell ⟨w.heap.size + 1 + 1 + 1, 1, none⟩ (.int .u64 (lim (a &&& b) 1)) = W2 := ⟨_, rfl⟩
 rw [hW] at LB LR LM LS Q ⊢
 clear hW
 gi_wp2_with fail
 replace LM : Has W2 (w.heap.size + 1 + 1 + 1) 24 #[.int .u64 (lim (a &&& b) 0), .int .u64 (lim (a &&& b) 1), .int .u64 0, .int .u64 0] := LM
 rw [roundsIn_succ]
 gi_wp2_with fail
 have kB0 : ∀ x : Ext W2, x.w.cell? ⟨w.heap.size + 1, 0, none⟩ = some (.int .u64 (lim b 0)) := fun x => (LB.later x.below).cell 0 _ rfl
 have kB1 : ∀ x : Ext W2, x.w.cell? ⟨w.heap.size + 1, 1, none⟩ = some (.int .u64 (lim b 1)) := fun x => (LB.later x.below).cell 1 _ rfl
 have kB2 : ∀ x : Ext W2, x.w.cell? ⟨w.heap.size + 1, 2, none⟩ = some (.int .u64 (lim b 2)) := fun x => (LB.later x.below).cell 2 _ rfl
 have kB3 : ∀ x : Ext W2, x.w.cell? ⟨w.heap.size + 1, 3, none⟩ = some (.int .u64 (lim b 3)) := fun x => (LB.later x.below).cell 3 _ rfl
 have kM0 : ∀ x : Ext W2, x.w.cell? ⟨w.heap.size + 1 + 1 + 1, 0, none⟩ = some (.int .u64 (lim (a &&& b) 0)) := fun x => (LM.later x.below).cell 0 _ rfl
 have kM1 : ∀ x : Ext W2, x.w.cell? ⟨w.heap.size + 1 + 1 + 1, 1, none⟩ = some (.int .u64 (lim (a &&& b) 1)) := fun x => (LM.later x.below).cell 1 _ rfl
 have kM2 : ∀ x : Ext W2, x.w.cell? ⟨w.heap.size + 1 + 1 + 1, 2, none⟩ = some (.int .u64 0) := fun x => (LM.later x.below).cell 2 _ rfl
 have kM3 : ∀ x : Ext W2, x.w.cell? ⟨w.heap.size + 1 + 1 + 1, 3, none⟩ = some (.int .u64 0) := fun x => (LM.later x.below).cell 3 _ rfl
 refine wpIn_region_mix (C := Grows W2) free_wide [some true, some true, some true, some true, some true, some true, some true, some true, some true, none] hmx (by kernel_rfl) (by kernel_rfl) (grows_refl W2) ?_
 simp only [headOf, tailOf]
 repeat (go_big_quiet_step (first | (with_reducible exact Ret.at O2.out _)))
 refine wpQuiet_nil ?_
 rintro _ ⟨x2, rfl⟩
 clear kB0 kB1 kB2 kB3 kM0 kM1 kM2 kM3
 have LB := LB.later x2.below
 have LR := LR.later x2.below
 have LM := LM.later x2.below
 have LS := LS.later x2.below
 have Q := Q.trans (x2.below.mono Q.size)
 have kc := LM.cell 2 _ rfl
 have kz := LM.frozen 2
 go_wp2
 rw [calmPost_normal]
 clear kc kz
 have LB := LB.other (p := ⟨w.heap.size + 1 + 1 + 1, 2, none⟩) (by simp) (.int .u64 (lim (a &&& b) 2))
 have LR := LR.other (p := ⟨w.heap.size + 1 + 1 + 1, 2, none⟩) (by simp) (.int .u64 (lim (a &&& b) 2))
 have LS := LS.other (p := ⟨w.heap.size + 1 + 1 + 1, 2, none⟩) (by simp) (.int .u64 (lim (a &&& b) 2))
 have LM := LM.set 2 (.int .u64 (lim (a &&& b) 2))
 have Q := Q.setCell (p := ⟨w.heap.size + 1 + 1 + 1, 2, none⟩) (show w.heap.size ≤ _ by simp; omega) (.int .u64 (lim (a &&& b) 2))
 obtain ⟨W3, hW⟩ : ∃ W3, x2.w.setCell ⟨w.heap.size + 1 + 1 + 1, 2, none⟩ (.int .u64 (lim (a &&& b) 2)) = W3 := ⟨_, rfl⟩
 rw [hW] at LB LR LM LS Q ⊢
 clear hW
 gi_wp2_with fail
 replace LM : Has W3 (w.heap.size + 1 + 1 + 1) 24 #[.int .u64 (lim (a &&& b) 0), .int .u64 (lim (a &&& b) 1), .int .u64 (lim (a &&& b) 2), .int .u64 0] := LM
 rw [roundsIn_succ]
 gi_wp2_with fail
 have kB0 : ∀ x : Ext W3, x.w.cell? ⟨w.heap.size + 1, 0, none⟩ = some (.int .u64 (lim b 0)) := fun x => (LB.later x.below).cell 0 _ rfl
 have kB1 : ∀ x : Ext W3, x.w.cell? ⟨w.heap.size + 1, 1, none⟩ = some (.int .u64 (lim b 1)) := fun x => (LB.later x.below).cell 1 _ rfl
 have kB2 : ∀ x : Ext W3, x.w.cell? ⟨w.heap.size + 1, 2, none⟩ = some (.int .u64 (lim b 2)) := fun x => (LB.later x.below).cell 2 _ rfl
 have kB3 : ∀ x : Ext W3, x.w.cell? ⟨w.heap.size + 1, 3, none⟩ = some (.int .u64 (lim b 3)) := fun x => (LB.later x.below).cell 3 _ rfl
 have kM0 : ∀ x : Ext W3, x.w.cell? ⟨w.heap.size + 1 + 1 + 1, 0, none⟩ = some (.int .u64 (lim (a &&& b) 0)) := fun x => (LM.later x.below).cell 0 _ rfl
 have kM1 : ∀ x : Ext W3, x.w.cell? ⟨w.heap.size + 1 + 1 + 1, 1, none⟩ = some (.int .u64 (lim (a &&& b) 1)) := fun x => (LM.later x.below).cell 1 _ rfl
 have kM2 : ∀ x : Ext W3, x.w.cell? ⟨w.heap.size + 1 + 1 + 1, 2, none⟩ = some (.int .u64 (lim (a &&& b) 2)) := fun x => (LM.later x.below).cell 2 _ rfl
 have kM3 : ∀ x : Ext W3, x.w.cell? ⟨w.heap.size + 1 + 1 + 1, 3, none⟩ = some (.int .u64 0) := fun x => (LM.later x.below).cell 3 _ rfl
 refine wpIn_region_mix (C := Grows W3) free_wide [some true, some true, some true, some true, some true, some true, some true, some true, some true, none] hmx (by kernel_rfl) (by kernel_rfl) (grows_refl W3) ?_
 simp only [headOf, tailOf]
 repeat (go_big_quiet_step (first | (with_reducible exact Ret.at O3.out _)))
 refine wpQuiet_nil ?_
 rintro _ ⟨x3, rfl⟩
 clear kB0 kB1 kB2 kB3 kM0 kM1 kM2 kM3
 have LB := LB.later x3.below
 have LR := LR.later x3.below
 have LM := LM.later x3.below
 have LS := LS.later x3.below
 have Q := Q.trans (x3.below.mono Q.size)
 have kc := LM.cell 3 _ rfl
 have kz := LM.frozen 3
 go_wp2
 rw [calmPost_normal]
 clear kc kz
 have LB := LB.other (p := ⟨w.heap.size + 1 + 1 + 1, 3, none⟩) (by simp) (.int .u64 (lim (a &&& b) 3))
 have LR := LR.other (p := ⟨w.heap.size + 1 + 1 + 1, 3, none⟩) (by simp) (.int .u64 (lim (a &&& b) 3))
 have LS := LS.other (p := ⟨w.heap.size + 1 + 1 + 1, 3, none⟩) (by simp) (.int .u64 (lim (a &&& b) 3))
 have LM := LM.set 3 (.int .u64 (lim (a &&& b) 3))
 have Q := Q.setCell (p := ⟨w.heap.size + 1 + 1 + 1, 3, none⟩) (show w.heap.size ≤ _ by simp; omega) (.int .u64 (lim (a &&& b) 3))
 obtain ⟨W4, hW⟩ : ∃ W4, x3.w.setCell ⟨w.heap.size + 1 + 1 + 1, 3, none⟩ (.int .u64 (lim (a &&& b) 3)) = W4 := ⟨_, rfl⟩
 rw [hW] at LB LR LM LS Q ⊢
 clear hW
 gi_wp2_with fail
 replace LM : Has W4 (w.heap.size + 1 + 1 + 1) 24 #[.int .u64 (lim (a &&& b) 0), .int .u64 (lim (a &&& b) 1), .int .u64 (lim (a &&& b) 2), .int .u64 (lim (a &&& b) 3)] := LM
 rw [roundsIn_succ]
 have k0 := LM.cell 0 _ rfl
 have r0 := LR.cell 0 _ rfl
 have z0 := LR.frozen 0
 have k1 := LM.cell 1 _ rfl
 have r1 := LR.cell 1 _ rfl
 have z1 := LR.frozen 1
 have k2 := LM.cell 2 _ rfl
 have r2 := LR.cell 2 _ rfl
 have z2 := LR.frozen 2
 have k3 := LM.cell 3 _ rfl
 have r3 := LR.cell 3 _ rfl
 have z3 := LR.frozen 3
 gi_wp2_with fail
 clear k0 r0 z0 k1 r1 z1 k2 r2 z2 k3 r3 z3
 have LR := ((((LR.set 0 (.int .u64 (lim (a &&& b) 0))).set 1 (.int .u64 (lim (a &&& b) 1))).set 2 (.int .u64 (lim (a &&& b) 2))).set 3 (.int .u64 (lim (a &&& b) 3)))
 have e0 := LR.cell 0 _ rfl
 have e1 := LR.cell 1 _ rfl
 have e2 := LR.cell 2 _ rfl
 have e3 := LR.cell 3 _ rfl
 have Q := ((((Q.setCell (p := ⟨w.heap.size + 1 + 1, 0, none⟩) (show w.heap.size ≤ _ by simp; omega) (.int .u64 (lim (a &&& b) 0))).setCell (p := ⟨w.heap.size + 1 + 1, 1, none⟩) (show w.heap.size ≤ _ by simp; omega) (.int .u64 (lim (a &&& b) 1))).setCell (p := ⟨w.heap.size + 1 + 1, 2, none⟩) (show w.heap.size ≤ _ by simp; omega) (.int .u64 (lim (a &&& b) 2))).setCell (p := ⟨w.heap.size + 1 + 1, 3, none⟩) (show w.heap.size ≤ _ by simp; omega) (.int .u64 (lim (a &&& b) 3)))
 exact ⟨_, by simp [results, Tryz.f150, go_sem, e0, e1, e2, e3], rfl, Q⟩
theorem pair_or (a b : Nat) (_ha : W256 a) (_hb : W256 b) : Ret Tryz.prog 151 #[wv a, wv b] (wv (a ||| b)) := by
 intro w
 have O0 := hid (of_or (lim a 0) (lim b 0) (lim (a ||| b) 0) (bits_or_lim a b 0 (by omega)))
 have O1 := hid (of_or (lim a 1) (lim b 1) (lim (a ||| b) 1) (bits_or_lim a b 1 (by omega)))
 have O2 := hid (of_or (lim a 2) (lim b 2) (lim (a ||| b) 2) (bits_or_lim a b 2 (by omega)))
 have O3 := hid (of_or (lim a 3) (lim b 3) (lim (a ||| b) 3) (bits_or_lim a b 3 (by omega)))
 unfold wv
 refine (callsIn_wide (n := 4)).1 ?_
 refine callsIn_of_wp_marks Tryz.func151 rfl trivial ?_ rfl
 simp only [Tryz.ntmps151, List.size_toArray, List.length_cons, List.length_nil, Nat.reduceAdd, Nat.reduceSub, Array.replicate_succ, Array.replicate_zero, List.push_toArray, List.append_toArray, List.nil_append, List.cons_append]
 have LA := Has.new w 24 #[.int .u64 (lim a 0), .int .u64 (lim a 1), .int .u64 (lim a 2), .int .u64 (lim a 3)]
 have LA := LA.alloc (.cells #[.int .u64 (lim b 0), .int .u64 (lim b 1), .int .u64 (lim b 2), .int .u64 (lim b 3)] 24)
 have LA := LA.alloc (.cells #[.int .u64 0, .int .u64 0, .int .u64 0, .int .u64 0] 24)
 have LA := LA.alloc (.cells #[.int .u64 0, .int .u64 0, .int .u64 0, .int .u64 0] 24)
 have LA := LA.alloc (.cells #[] 137)
 have LB := Has.new (w.alloc (.cells #[.int .u64 (lim a 0), .int .u64 (lim a 1), .int .u64 (lim a 2), .int .u64 (lim a 3)] 24)) 24 #[.int .u64 (lim b 0), .int .u64 (lim b 1), .int .u64 (lim b 2), .int .u64 (lim b 3)]
 simp only [World.size_alloc] at LB
 have LB := LB.alloc (.cells #[.int .u64 0, .int .u64 0, .int .u64 0, .int .u64 0] 24)
 have LB := LB.alloc (.cells #[.int .u64 0, .int .u64 0, .int .u64 0, .int .u64 0] 24)
 have LB := LB.alloc (.cells #[] 137)
 have LR := Has.new ((w.alloc (.cells #[.int .u64 (lim a 0), .int .u64 (lim a 1), .int .u64 (lim a 2), .int .u64 (lim a 3)] 24)).alloc (.cells #[.int .u64 (lim b 0), .int .u64 (lim b 1), .int .u64 (lim b 2), .int .u64 (lim b 3)] 24)) 24 #[.int .u64 0, .int .u64 0, .int .u64 0, .int .u64 0]
 simp only [World.size_alloc] at LR
 have LR := LR.alloc (.cells #[.int .u64 0, .int .u64 0, .int .u64 0, .int .u64 0] 24)
 have LR := LR.alloc (.cells #[] 137)
 have LM := Has.new (((w.alloc (.cells #[.int .u64 (lim a 0), .int .u64 (lim a 1), .int .u64 (lim a 2), .int .u64 (lim a 3)] 24)).alloc (.cells #[.int .u64 (lim b 0), .int .u64 (lim b 1), .int .u64 (lim b 2), .int .u64 (lim b 3)] 24)).alloc (.cells #[.int .u64 0, .int .u64 0, .int .u64 0, .int .u64 0] 24)) 24 #[.int .u64 0, .int .u64 0, .int .u64 0, .int .u64 0]
 simp only [World.size_alloc] at LM
 have LM := LM.alloc (.cells #[] 137)
 have LS := Has.new ((((w.alloc (.cells #[.int .u64 (lim a 0), .int .u64 (lim a 1), .int .u64 (lim a 2), .int .u64 (lim a 3)] 24)).alloc (.cells #[.int .u64 (lim b 0), .int .u64 (lim b 1), .int .u64 (lim b 2), .int .u64 (lim b 3)] 24)).alloc (.cells #[.int .u64 0, .int .u64 0, .int .u64 0, .int .u64 0] 24)).alloc (.cells #[.int .u64 0, .int .u64 0, .int .u64 0, .int .u64 0] 24)) 137 #[]
 simp only [World.size_alloc] at LS
 have Q := Below.refl w.heap.size w
 have Q := Q.alloc Q.size (.cells #[.int .u64 (lim a 0), .int .u64 (lim a 1), .int .u64 (lim a 2), .int .u64 (lim a 3)] 24)
 have Q := Q.alloc Q.size (.cells #[.int .u64 (lim b 0), .int .u64 (lim b 1), .int .u64 (lim b 2), .int .u64 (lim b 3)] 24)
 have Q := Q.alloc Q.size (.cells #[.int .u64 0, .int .u64 0, .int .u64 0, .int .u64 0] 24)
 have Q := Q.alloc Q.size (.cells #[.int .u64 0, .int .u64 0, .int .u64 0, .int .u64 0] 24)
 have Q := Q.alloc Q.size (.cells #[] 137)
 have k0 := LA.cell 0 _ rfl
 have k1 := LA.cell 1 _ rfl
 have k2 := LA.cell 2 _ rfl
 have k3 := LA.cell 3 _ rfl
 have mt := meth_or
 have hmx : Tryz.prog.follows .mixedOrders = true := by kernel_rfl
 gi_wp2_with fail
 clear k0 k1 k2 k3
 obtain ⟨W0, hW0⟩ : ∃ W0, (((((w.alloc (.cells #[.int .u64 (lim a 0), .int .u64 (lim a 1), .int .u64 (lim a 2), .int .u64 (lim a 3)] 24)).alloc (.cells #[.int .u64 (lim b 0), .int .u64 (lim b 1), .int .u64 (lim b 2), .int .u64 (lim b 3)] 24)).alloc (.cells #[.int .u64 0, .int .u64 0, .int .u64 0, .int .u64 0] 24)).alloc (.cells #[.int .u64 0, .int .u64 0, .int .u64 0, .int .u64 0] 24)).alloc (.cells #[] 137)) = W0 := ⟨_, rfl⟩
 rw [hW0] at LB LR LM LS Q ⊢
 clear hW0 LA _ha _hb
 have i0 : ∀ w, (Instr.index 24 (.agg #[.int .u64 (lim a 0), .int .u64 (lim a 1), .int .u64 (lim a 2), .int .u64 (lim a 3)]) (.int .i64 0)).run Tryz.prog w = .ok (.int .u64 (lim a 0)) w := fun _ => by kernel_rfl
 have i1 : ∀ w, (Instr.index 24 (.agg #[.int .u64 (lim a 0), .int .u64 (lim a 1), .int .u64 (lim a 2), .int .u64 (lim a 3)]) (.int .i64 1)).run Tryz.prog w = .ok (.int .u64 (lim a 1)) w := fun _ => by kernel_rfl
 have i2 : ∀ w, (Instr.index 24 (.agg #[.int .u64 (lim a 0), .int .u64 (lim a 1), .int .u64 (lim a 2), .int .u64 (lim a 3)]) (.int .i64 2)).run Tryz.prog w = .ok (.int .u64 (lim a 2)) w := fun _ => by kernel_rfl
 have i3 : ∀ w, (Instr.index 24 (.agg #[.int .u64 (lim a 0), .int .u64 (lim a 1), .int .u64 (lim a 2), .int .u64 (lim a 3)]) (.int .i64 3)).run Tryz.prog w = .ok (.int .u64 (lim a 3)) w := fun _ => by kernel_rfl
 refine wpIn_loop_rounds 5 ?_
 rw [roundsIn_succ]
 gi_wp2_with fail
 have kB0 : ∀ x : Ext W0, x.w.cell? ⟨w.heap.size + 1, 0, none⟩ = some (.int .u64 (lim b 0)) := fun x => (LB.later x.below).cell 0 _ rfl
 have kB1 : ∀ x : Ext W0, x.w.cell? ⟨w.heap.size + 1, 1, none⟩ = some (.int .u64 (lim b 1)) := fun x => (LB.later x.below).cell 1 _ rfl
 have kB2 : ∀ x : Ext W0, x.w.cell? ⟨w.heap.size + 1, 2, none⟩ = some (.int .u64 (lim b 2)) := fun x => (LB.later x.below).cell 2 _ rfl
 have kB3 : ∀ x : Ext W0, x.w.cell? ⟨w.heap.size + 1, 3, none⟩ = some (.int .u64 (lim b 3)) := fun x => (LB.later x.below).cell 3 _ rfl
 have kM0 : ∀ x : Ext W0, x.w.cell? ⟨w.heap.size + 1 + 1 + 1, 0, none⟩ = some (.int .u64 0) := fun x => (LM.later x.below).cell 0 _ rfl
 have kM1 : ∀ x : Ext W0, x.w.cell? ⟨w.heap.size + 1 + 1 + 1, 1, none⟩ = some (.int .u64 0) := fun x => (LM.later x.below).cell 1 _ rfl
 have kM2 : ∀ x : Ext W0, x.w.cell? ⟨w.heap.size + 1 + 1 + 1, 2, none⟩ = some (.int .u64 0) := fun x => (LM.later x.below).cell 2 _ rfl
 have kM3 : ∀ x : Ext W0, x.w.cell? ⟨w.heap.size + 1 + 1 + 1, 3, none⟩ = some (.int .u64 0) := fun x => (LM.later x.below).cell 3 _ rfl
 refine wpIn_region_mix (C := Grows W0) free_wide [some true, some true, some true, some true, some true, some true, some true, some true, some true, none] hmx (by kernel_rfl) (by kernel_rfl) (grows_refl W0) ?_
 simp only [headOf, tailOf]
 repeat (go_big_quiet_step (first | (with_reducible exact Ret.at O0.out _)))
 refine wpQuiet_nil ?_
 rintro _ ⟨x0, rfl⟩
 clear kB0 kB1 kB2 kB3 kM0 kM1 kM2 kM3
 have LB := LB.later x0.below
 have LR := LR.later x0.below
 have LM := LM.later x0.below
 have LS := LS.later x0.below
 have Q := Q.trans (x0.below.mono Q.size)
 have kc := LM.cell 0 _ rfl
 have kz := LM.frozen 0
 go_wp2
 rw [calmPost_normal]
 clear kc kz
 have LB := LB.other (p := ⟨w.heap.size + 1 + 1 + 1, 0, none⟩) (by simp) (.int .u64 (lim (a ||| b) 0))
 have LR := LR.other (p := ⟨w.heap.size + 1 + 1 + 1, 0, none⟩) (by simp) (.int .u64 (lim (a ||| b) 0))
 have LS := LS.other (p := ⟨w.heap.size + 1 + 1 + 1, 0, none⟩) (by simp) (.int .u64 (lim (a ||| b) 0))
 have LM := LM.set 0 (.int .u64 (lim (a ||| b) 0))
 have Q := Q.setCell (p := ⟨w.heap.size + 1 + 1 + 1, 0, none⟩) (show w.heap.size ≤ _ by simp; omega) (.int .u64 (lim (a ||| b) 0))
 obtain ⟨W1, hW⟩ : ∃ W1, x0.w.setCell ⟨w.heap.size + 1 + 1 + 1, 0, none⟩ (.int .u64 (lim (a ||| b) 0)) = W1 := ⟨_, rfl⟩
 rw [hW] at LB LR LM LS Q ⊢
 clear hW
 gi_wp2_with fail
 replace LM : Has W1 (w.heap.size + 1 + 1 + 1) 24 #[.int .u64 (lim (a ||| b) 0), .int .u64 0, .int .u64 0, .int .u64 0] := LM
 rw [roundsIn_succ]
 gi_wp2_with fail
 have kB0 : ∀ x : Ext W1, x.w.cell? ⟨w.heap.size + 1, 0, none⟩ = some (.int .u64 (lim b 0)) := fun x => (LB.later x.below).cell 0 _ rfl
 have kB1 : ∀ x : Ext W1, x.w.cell? ⟨w.heap.size + 1, 1, none⟩ = some (.int .u64 (lim b 1)) := fun x => (LB.later x.below).cell 1 _ rfl
 have kB2 : ∀ x : Ext W1, x.w.cell? ⟨w.heap.size + 1, 2, none⟩ = some (.int .u64 (lim b 2)) := fun x => (LB.later x.below).cell 2 _ rfl
 have kB3 : ∀ x : Ext W1, x.w.cell? ⟨w.heap.size + 1, 3, none⟩ = some (.int .u64 (lim b 3)) := fun x => (LB.later x.below).cell 3 _ rfl
 have kM0 : ∀ x : Ext W1, x.w.cell? ⟨w.heap.size + 1 + 1 + 1, 0, none⟩ = some (.int .u64 (lim (a ||| b) 0)) := fun x => (LM.later x.below).cell 0 _ rfl
 have kM1 : ∀ x : Ext W1, x.w.cell? ⟨w.heap.size + 1 + 1 + 1, 1, none⟩ = some (.int .u64 0) := fun x => (LM.later x.below).cell 1 _ rfl
 have kM2 : ∀ x : Ext W1, x.w.cell? ⟨w.heap.size + 1 + 1 + 1, 2, none⟩ = some (.int .u64 0) := fun x => (LM.later x.below).cell 2 _ rfl
 have kM3 : ∀ x : Ext W1, x.w.cell? ⟨w.heap.size + 1 + 1 + 1, 3, none⟩ = some (.int .u64 0) := fun x => (LM.later x.below).cell 3 _ rfl
 refine wpIn_region_mix (C := Grows W1) free_wide [some true, some true, some true, some true, some true, some true, some true, some true, some true, none] hmx (by kernel_rfl) (by kernel_rfl) (grows_refl W1) ?_
 simp only [headOf, tailOf]
 repeat (go_big_quiet_step (first | (with_reducible exact Ret.at O1.out _)))
 refine wpQuiet_nil ?_
 rintro _ ⟨x1, rfl⟩
 clear kB0 kB1 kB2 kB3 kM0 kM1 kM2 kM3
 have LB := LB.later x1.below
 have LR := LR.later x1.below
 have LM := LM.later x1.below
 have LS := LS.later x1.below
 have Q := Q.trans (x1.below.mono Q.size)
 have kc := LM.cell 1 _ rfl
 have kz := LM.frozen 1
 go_wp2
 rw [calmPost_normal]
 clear kc kz
 have LB := LB.other (p := ⟨w.heap.size + 1 + 1 + 1, 1, none⟩) (by simp) (.int .u64 (lim (a ||| b) 1))
 have LR := LR.other (p := ⟨w.heap.size + 1 + 1 + 1, 1, none⟩) (by simp) (.int .u64 (lim (a ||| b) 1))
 have LS := LS.other (p := ⟨w.heap.size + 1 + 1 + 1, 1, none⟩) (by simp) (.int .u64 (lim (a ||| b) 1))
 have LM := LM.set 1 (.int .u64 (lim (a ||| b) 1))
 have Q := Q.setCell (p := ⟨w.heap.size + 1 + 1 + 1, 1, none⟩) (show w.heap.size ≤ _ by simp; omega) (.int .u64 (lim (a ||| b) 1))
 obtain ⟨W2, hW⟩ : ∃ W2, x1.w.setCell ⟨w.heap.size + 1 + 1 + 1, 1, none⟩ (.int .u64 (lim (a ||| b) 1)) = W2 := ⟨_, rfl⟩
 rw [hW] at LB LR LM LS Q ⊢
 clear hW
 gi_wp2_with fail
 replace LM : Has W2 (w.heap.size + 1 + 1 + 1) 24 #[.int .u64 (lim (a ||| b) 0), .int .u64 (lim (a ||| b) 1), .int .u64 0, .int .u64 0] := LM
 rw [roundsIn_succ]
 gi_wp2_with fail
 have kB0 : ∀ x : Ext W2, x.w.cell? ⟨w.heap.size + 1, 0, none⟩ = some (.int .u64 (lim b 0)) := fun x => (LB.later x.below).cell 0 _ rfl
 have kB1 : ∀ x : Ext W2, x.w.cell? ⟨w.heap.size + 1, 1, none⟩ = some (.int .u64 (lim b 1)) := fun x => (LB.later x.below).cell 1 _ rfl
 have kB2 : ∀ x : Ext W2, x.w.cell? ⟨w.heap.size + 1, 2, none⟩ = some (.int .u64 (lim b 2)) := fun x => (LB.later x.below).cell 2 _ rfl
 have kB3 : ∀ x : Ext W2, x.w.cell? ⟨w.heap.size + 1, 3, none⟩ = some (.int .u64 (lim b 3)) := fun x => (LB.later x.below).cell 3 _ rfl
 have kM0 : ∀ x : Ext W2, x.w.cell? ⟨w.heap.size + 1 + 1 + 1, 0, none⟩ = some (.int .u64 (lim (a ||| b) 0)) := fun x => (LM.later x.below).cell 0 _ rfl
 have kM1 : ∀ x : Ext W2, x.w.cell? ⟨w.heap.size + 1 + 1 + 1, 1, none⟩ = some (.int .u64 (lim (a ||| b) 1)) := fun x => (LM.later x.below).cell 1 _ rfl
 have kM2 : ∀ x : Ext W2, x.w.cell? ⟨w.heap.size + 1 + 1 + 1, 2, none⟩ = some (.int .u64 0) := fun x => (LM.later x.below).cell 2 _ rfl
 have kM3 : ∀ x : Ext W2, x.w.cell? ⟨w.heap.size + 1 + 1 + 1, 3, none⟩ = some (.int .u64 0) := fun x => (LM.later x.below).cell 3 _ rfl
 refine wpIn_region_mix (C := Grows W2) free_wide [some true, some true, some true, some true, some true, some true, some true, some true, some true, none] hmx (by kernel_rfl) (by kernel_rfl) (grows_refl W2) ?_
 simp only [headOf, tailOf]
 repeat (go_big_quiet_step (first | (with_reducible exact Ret.at O2.out _)))
 refine wpQuiet_nil ?_
 rintro _ ⟨x2, rfl⟩
 clear kB0 kB1 kB2 kB3 kM0 kM1 kM2 kM3
 have LB := LB.later x2.below
 have LR := LR.later x2.below
 have LM := LM.later x2.below
 have LS := LS.later x2.below
 have Q := Q.trans (x2.below.mono Q.size)
 have kc := LM.cell 2 _ rfl
 have kz := LM.frozen 2
 go_wp2
 rw [calmPost_normal]
 clear kc kz
 have LB := LB.other (p := ⟨w.heap.size + 1 + 1 + 1, 2, none⟩) (by simp) (.int .u64 (lim (a ||| b) 2))
 have LR := LR.other (p := ⟨w.heap.size + 1 + 1 + 1, 2, none⟩) (by simp) (.int .u64 (lim (a ||| b) 2))
 have LS := LS.other (p := ⟨w.heap.size + 1 + 1 + 1, 2, none⟩) (by simp) (.int .u64 (lim (a ||| b) 2))
 have LM := LM.set 2 (.int .u64 (lim (a ||| b) 2))
 have Q := Q.setCell (p := ⟨w.heap.size + 1 + 1 + 1, 2, none⟩) (show w.heap.size ≤ _ by simp; omega) (.int .u64 (lim (a ||| b) 2))
 obtain ⟨W3, hW⟩ : ∃ W3, x2.w.setCell ⟨w.heap.size + 1 + 1 + 1, 2, none⟩ (.int .u64 (lim (a ||| b) 2)) = W3 := ⟨_, rfl⟩
 rw [hW] at LB LR LM LS Q ⊢
 clear hW
 gi_wp2_with fail
 replace LM : Has W3 (w.heap.size + 1 + 1 + 1) 24 #[.int .u64 (lim (a ||| b) 0), .int .u64 (lim (a ||| b) 1), .int .u64 (lim (a ||| b) 2), .int .u64 0] := LM
 rw [roundsIn_succ]
 gi_wp2_with fail
 have kB0 : ∀ x : Ext W3, x.w.cell? ⟨w.heap.size + 1, 0, none⟩ = some (.int .u64 (lim b 0)) := fun x => (LB.later x.below).cell 0 _ rfl
 have kB1 : ∀ x : Ext W3, x.w.cell? ⟨w.heap.size + 1, 1, none⟩ = some (.int .u64 (lim b 1)) := fun x => (LB.later x.below).cell 1 _ rfl
 have kB2 : ∀ x : Ext W3, x.w.cell? ⟨w.heap.size + 1, 2, none⟩ = some (.int .u64 (lim b 2)) := fun x => (LB.later x.below).cell 2 _ rfl
 have kB3 : ∀ x : Ext W3, x.w.cell? ⟨w.heap.size + 1, 3, none⟩ = some (.int .u64 (lim b 3)) := fun x => (LB.later x.below).cell 3 _ rfl
 have kM0 : ∀ x : Ext W3, x.w.cell? ⟨w.heap.size + 1 + 1 + 1, 0, none⟩ = some (.int .u64 (lim (a ||| b) 0)) := fun x => (LM.later x.below).cell 0 _ rfl
 have kM1 : ∀ x : Ext W3, x.w.cell? ⟨w.heap.size + 1 + 1 + 1, 1, none⟩ = some (.int .u64 (lim (a ||| b) 1)) := fun x => (LM.later x.below).cell 1 _ rfl
 have kM2 : ∀ x : Ext W3, x.w.cell? ⟨w.heap.size + 1 + 1 + 1, 2, none⟩ = some (.int .u64 (lim (a ||| b) 2)) := fun x => (LM.later x.below).cell 2 _ rfl
 have kM3 : ∀ x : Ext W3, x.w.cell? ⟨w.heap.size + 1 + 1 + 1, 3, none⟩ = some (.int .u64 0) := fun x => (LM.later x.below).cell 3 _ rfl
 refine wpIn_region_mix (C := Grows W3) free_wide [some true, some true, some true, some true, some true, some true, some true, some true, some true, none] hmx (by kernel_rfl) (by kernel_rfl) (grows_refl W3) ?_
 simp only [headOf, tailOf]
 repeat (go_big_quiet_step (first | (with_reducible exact Ret.at O3.out _)))
 refine wpQuiet_nil ?_
 rintro _ ⟨x3, rfl⟩
 clear kB0 kB1 kB2 kB3 kM0 kM1 kM2 kM3
 have LB := LB.later x3.below
 have LR := LR.later x3.below
 have LM := LM.later x3.below
 have LS := LS.later x3.below
 have Q := Q.trans (x3.below.mono Q.size)
 have kc := LM.cell 3 _ rfl
 have kz := LM.frozen 3
 go_wp2
 rw [calmPost_normal]
 clear kc kz
 have LB := LB.other (p := ⟨w.heap.size + 1 + 1 + 1, 3, none⟩) (by simp) (.int .u64 (lim (a ||| b) 3))
 have LR := LR.other (p := ⟨w.heap.size + 1 + 1 + 1, 3, none⟩) (by simp) (.int .u64 (lim (a ||| b) 3))
 have LS := LS.other (p := ⟨w.heap.size + 1 + 1 + 1, 3, none⟩) (by simp) (.int .u64 (lim (a ||| b) 3))
 have LM := LM.set 3 (.int .u64 (lim (a ||| b) 3))
 have Q := Q.setCell (p := ⟨w.heap.size + 1 + 1 + 1, 3, none⟩) (show w.heap.size ≤ _ by simp; omega) (.int .u64 (lim (a ||| b) 3))
 obtain ⟨W4, hW⟩ : ∃ W4, x3.w.setCell ⟨w.heap.size + 1 + 1 + 1, 3, none⟩ (.int .u64 (lim (a ||| b) 3)) = W4 := ⟨_, rfl⟩
 rw [hW] at LB LR LM LS Q ⊢
 clear hW
 gi_wp2_with fail
 replace LM : Has W4 (w.heap.size + 1 + 1 + 1) 24 #[.int .u64 (lim (a ||| b) 0), .int .u64 (lim (a ||| b) 1), .int .u64 (lim (a ||| b) 2), .int .u64 (lim (a ||| b) 3)] := LM
 rw [roundsIn_succ]
 have k0 := LM.cell 0 _ rfl
 have r0 := LR.cell 0 _ rfl
 have z0 := LR.frozen 0
 have k1 := LM.cell 1 _ rfl
 have r1 := LR.cell 1 _ rfl
 have z1 := LR.frozen 1
 have k2 := LM.cell 2 _ rfl
 have r2 := LR.cell 2 _ rfl
 have z2 := LR.frozen 2
 have k3 := LM.cell 3 _ rfl
 have r3 := LR.cell 3 _ rfl
 have z3 := LR.frozen 3
 gi_wp2_with fail
 clear k0 r0 z0 k1 r1 z1 k2 r2 z2 k3 r3 z3
 have LR := ((((LR.set 0 (.int .u64 (lim (a ||| b) 0))).set 1 (.int .u64 (lim (a ||| b) 1))).set 2 (.int .u64 (lim (a ||| b) 2))).set 3 (.int .u64 (lim (a ||| b) 3)))
 have e0 := LR.cell 0 _ rfl
 have e1 := LR.cell 1 _ rfl
 have e2 := LR.cell 2 _ rfl
 have e3 := LR.cell 3 _ rfl
 have Q := ((((Q.setCell (p := ⟨w.heap.size + 1 + 1, 0, none⟩) (show w.heap.size ≤ _ by simp; omega) (.int .u64 (lim (a ||| b) 0))).setCell (p := ⟨w.heap.size + 1 + 1, 1, none⟩) (show w.heap.size ≤ _ by simp; omega) (.int .u64 (lim (a ||| b) 1))).setCell (p := ⟨w.heap.size + 1 + 1, 2, none⟩) (show w.heap.size ≤ _ by simp; omega) (.int .u64 (lim (a ||| b) 2))).setCell (p := ⟨w.heap.size + 1 + 1, 3, none⟩) (show w.heap.size ≤ _ by simp; omega) (.int .u64 (lim (a ||| b) 3)))
 exact ⟨_, by simp [results, Tryz.f151, go_sem, e0, e1, e2, e3], rfl, Q⟩
theorem pair_xor (a b : Nat) (_ha : W256 a) (_hb : W256 b) : Ret Tryz.prog 152 #[wv a, wv b] (wv (a ^^^ b)) := by
 intro w
 have O0 := hid (of_xor (lim a 0) (lim b 0) (lim (a ^^^ b) 0) (bits_xor_lim a b 0 (by omega)))
 have O1 := hid (of_xor (lim a 1) (lim b 1) (lim (a ^^^ b) 1) (bits_xor_lim a b 1 (by omega)))
 have O2 := hid (of_xor (lim a 2) (lim b 2) (lim (a ^^^ b) 2) (bits_xor_lim a b 2 (by omega)))
 have O3 := hid (of_xor (lim a 3) (lim b 3) (lim (a ^^^ b) 3) (bits_xor_lim a b 3 (by omega)))
 unfold wv
 refine (callsIn_wide (n := 4)).1 ?_
 refine callsIn_of_wp_marks Tryz.func152 rfl trivial ?_ rfl
 simp only [Tryz.ntmps152, List.size_toArray, List.length_cons, List.length_nil, Nat.reduceAdd, Nat.reduceSub, Array.replicate_succ, Array.replicate_zero, List.push_toArray, List.append_toArray, List.nil_append, List.cons_append]
 have LA := Has.new w 24 #[.int .u64 (lim a 0), .int .u64 (lim a 1), .int .u64 (lim a 2), .int .u64 (lim a 3)]
 have LA := LA.alloc (.cells #[.int .u64 (lim b 0), .int .u64 (lim b 1), .int .u64 (lim b 2), .int .u64 (lim b 3)] 24)
 have LA := LA.alloc (.cells #[.int .u64 0, .int .u64 0, .int .u64 0, .int .u64 0] 24)
 have LA := LA.alloc (.cells #[.int .u64 0, .int .u64 0, .int .u64 0, .int .u64 0] 24)
 have LA := LA.alloc (.cells #[] 138)
 have LB := Has.new (w.alloc (.cells #[.int .u64 (lim a 0), .int .u64 (lim a 1), .int .u64 (lim a 2), .int .u64 (lim a 3)] 24)) 24 #[.int .u64 (lim b 0), .int .u64 (lim b 1), .int .u64 (lim b 2), .int .u64 (lim b 3)]
 simp only [World.size_alloc] at LB
 have LB := LB.alloc (.cells #[.int .u64 0, .int .u64 0, .int .u64 0, .int .u64 0] 24)
 have LB := LB.alloc (.cells #[.int .u64 0, .int .u64 0, .int .u64 0, .int .u64 0] 24)
 have LB := LB.alloc (.cells #[] 138)
 have LR := Has.new ((w.alloc (.cells #[.int .u64 (lim a 0), .int .u64 (lim a 1), .int .u64 (lim a 2), .int .u64 (lim a 3)] 24)).alloc (.cells #[.int .u64 (lim b 0), .int .u64 (lim b 1), .int .u64 (lim b 2), .int .u64 (lim b 3)] 24)) 24 #[.int .u64 0, .int .u64 0, .int .u64 0, .int .u64 0]
 simp only [World.size_alloc] at LR
 have LR := LR.alloc (.cells #[.int .u64 0, .int .u64 0, .int .u64 0, .int .u64 0] 24)
 have LR := LR.alloc (.cells #[] 138)
 have LM := Has.new (((w.alloc (.cells #[.int .u64 (lim a 0), .int .u64 (lim a 1), .int .u64 (lim a 2), .int .u64 (lim a 3)] 24)).alloc (.cells #[.int .u64 (lim b 0), .int .u64 (lim b 1), .int .u64 (lim b 2), .int .u64 (lim b 3)] 24)).alloc (.cells #[.int .u64 0, .int .u64 0, .int .u64 0, .int .u64 0] 24)) 24 #[.int .u64 0, .int .u64 0, .int .u64 0, .int .u64 0]
 simp only [World.size_alloc] at LM
 have LM := LM.alloc (.cells #[] 138)
 have LS := Has.new ((((w.alloc (.cells #[.int .u64 (lim a 0), .int .u64 (lim a 1), .int .u64 (lim a 2), .int .u64 (lim a 3)] 24)).alloc (.cells #[.int .u64 (lim b 0), .int .u64 (lim b 1), .int .u64 (lim b 2), .int .u64 (lim b 3)] 24)).alloc (.cells #[.int .u64 0, .int .u64 0, .int .u64 0, .int .u64 0] 24)).alloc (.cells #[.int .u64 0, .int .u64 0, .int .u64 0, .int .u64 0] 24)) 138 #[]
 simp only [World.size_alloc] at LS
 have Q := Below.refl w.heap.size w
 have Q := Q.alloc Q.size (.cells #[.int .u64 (lim a 0), .int .u64 (lim a 1), .int .u64 (lim a 2), .int .u64 (lim a 3)] 24)
 have Q := Q.alloc Q.size (.cells #[.int .u64 (lim b 0), .int .u64 (lim b 1), .int .u64 (lim b 2), .int .u64 (lim b 3)] 24)
 have Q := Q.alloc Q.size (.cells #[.int .u64 0, .int .u64 0, .int .u64 0, .int .u64 0] 24)
 have Q := Q.alloc Q.size (.cells #[.int .u64 0, .int .u64 0, .int .u64 0, .int .u64 0] 24)
 have Q := Q.alloc Q.size (.cells #[] 138)
 have k0 := LA.cell 0 _ rfl
 have k1 := LA.cell 1 _ rfl
 have k2 := LA.cell 2 _ rfl
 have k3 := LA.cell 3 _ rfl
 have mt := meth_xor
 have hmx : Tryz.prog.follows .mixedOrders = true := by kernel_rfl
 gi_wp2_with fail
 clear k0 k1 k2 k3
 obtain ⟨W0, hW0⟩ : ∃ W0, (((((w.alloc (.cells #[.int .u64 (lim a 0), .int .u64 (lim a 1), .int .u64 (lim a 2), .int .u64 (lim a 3)] 24)).alloc (.cells #[.int .u64 (lim b 0), .int .u64 (lim b 1), .int .u64 (lim b 2), .int .u64 (lim b 3)] 24)).alloc (.cells #[.int .u64 0, .int .u64 0, .int .u64 0, .int .u64 0] 24)).alloc (.cells #[.int .u64 0, .int .u64 0, .int .u64 0, .int .u64 0] 24)).alloc (.cells #[] 138)) = W0 := ⟨_, rfl⟩
 rw [hW0] at LB LR LM LS Q ⊢
 clear hW0 LA _ha _hb
 have i0 : ∀ w, (Instr.index 24 (.agg #[.int .u64 (lim a 0), .int .u64 (lim a 1), .int .u64 (lim a 2), .int .u64 (lim a 3)]) (.int .i64 0)).run Tryz.prog w = .ok (.int .u64 (lim a 0)) w := fun _ => by kernel_rfl
 have i1 : ∀ w, (Instr.index 24 (.agg #[.int .u64 (lim a 0), .int .u64 (lim a 1), .int .u64 (lim a 2), .int .u64 (lim a 3)]) (.int .i64 1)).run Tryz.prog w = .ok (.int .u64 (lim a 1)) w := fun _ => by kernel_rfl
 have i2 : ∀ w, (Instr.index 24 (.agg #[.int .u64 (lim a 0), .int .u64 (lim a 1), .int .u64 (lim a 2), .int .u64 (lim a 3)]) (.int .i64 2)).run Tryz.prog w = .ok (.int .u64 (lim a 2)) w := fun _ => by kernel_rfl
 have i3 : ∀ w, (Instr.index 24 (.agg #[.int .u64 (lim a 0), .int .u64 (lim a 1), .int .u64 (lim a 2), .int .u64 (lim a 3)]) (.int .i64 3)).run Tryz.prog w = .ok (.int .u64 (lim a 3)) w := fun _ => by kernel_rfl
 refine wpIn_loop_rounds 5 ?_
 rw [roundsIn_succ]
 gi_wp2_with fail
 have kB0 : ∀ x : Ext W0, x.w.cell? ⟨w.heap.size + 1, 0, none⟩ = some (.int .u64 (lim b 0)) := fun x => (LB.later x.below).cell 0 _ rfl
 have kB1 : ∀ x : Ext W0, x.w.cell? ⟨w.heap.size + 1, 1, none⟩ = some (.int .u64 (lim b 1)) := fun x => (LB.later x.below).cell 1 _ rfl
 have kB2 : ∀ x : Ext W0, x.w.cell? ⟨w.heap.size + 1, 2, none⟩ = some (.int .u64 (lim b 2)) := fun x => (LB.later x.below).cell 2 _ rfl
 have kB3 : ∀ x : Ext W0, x.w.cell? ⟨w.heap.size + 1, 3, none⟩ = some (.int .u64 (lim b 3)) := fun x => (LB.later x.below).cell 3 _ rfl
 have kM0 : ∀ x : Ext W0, x.w.cell? ⟨w.heap.size + 1 + 1 + 1, 0, none⟩ = some (.int .u64 0) := fun x => (LM.later x.below).cell 0 _ rfl
 have kM1 : ∀ x : Ext W0, x.w.cell? ⟨w.heap.size + 1 + 1 + 1, 1, none⟩ = some (.int .u64 0) := fun x => (LM.later x.below).cell 1 _ rfl
 have kM2 : ∀ x : Ext W0, x.w.cell? ⟨w.heap.size + 1 + 1 + 1, 2, none⟩ = some (.int .u64 0) := fun x => (LM.later x.below).cell 2 _ rfl
 have kM3 : ∀ x : Ext W0, x.w.cell? ⟨w.heap.size + 1 + 1 + 1, 3, none⟩ = some (.int .u64 0) := fun x => (LM.later x.below).cell 3 _ rfl
 refine wpIn_region_mix (C := Grows W0) free_wide [some true, some true, some true, some true, some true, some true, some true, some true, some true, none] hmx (by kernel_rfl) (by kernel_rfl) (grows_refl W0) ?_
 simp only [headOf, tailOf]
 repeat (go_big_quiet_step (first | (with_reducible exact Ret.at O0.out _)))
 refine wpQuiet_nil ?_
 rintro _ ⟨x0, rfl⟩
 clear kB0 kB1 kB2 kB3 kM0 kM1 kM2 kM3
 have LB := LB.later x0.below
 have LR := LR.later x0.below
 have LM := LM.later x0.below
 have LS := LS.later x0.below
 have Q := Q.trans (x0.below.mono Q.size)
 have kc := LM.cell 0 _ rfl
 have kz := LM.frozen 0
 go_wp2
 rw [calmPost_normal]
 clear kc kz
 have LB := LB.other (p := ⟨w.heap.size + 1 + 1 + 1, 0, none⟩) (by simp) (.int .u64 (lim (a ^^^ b) 0))
 have LR := LR.other (p := ⟨w.heap.size + 1 + 1 + 1, 0, none⟩) (by simp) (.int .u64 (lim (a ^^^ b) 0))
 have LS := LS.other (p := ⟨w.heap.size + 1 + 1 + 1, 0, none⟩) (by simp) (.int .u64 (lim (a ^^^ b) 0))
 have LM := LM.set 0 (.int .u64 (lim (a ^^^ b) 0))
 have Q := Q.setCell (p := ⟨w.heap.size + 1 + 1 + 1, 0, none⟩) (show w.heap.size ≤ _ by simp; omega) (.int .u64 (lim (a ^^^ b) 0))
 obtain ⟨W1, hW⟩ : ∃ W1, x0.w.setCell ⟨w.heap.size + 1 + 1 + 1, 0, none⟩ (.int .u64 (lim (a ^^^ b) 0)) = W1 := ⟨_, rfl⟩
 rw [hW] at LB LR LM LS Q ⊢
 clear hW
 gi_wp2_with fail
 replace LM : Has W1 (w.heap.size + 1 + 1 + 1) 24 #[.int .u64 (lim (a ^^^ b) 0), .int .u64 0, .int .u64 0, .int .u64 0] := LM
 rw [roundsIn_succ]
 gi_wp2_with fail
 have kB0 : ∀ x : Ext W1, x.w.cell? ⟨w.heap.size + 1, 0, none⟩ = some (.int .u64 (lim b 0)) := fun x => (LB.later x.below).cell 0 _ rfl
 have kB1 : ∀ x : Ext W1, x.w.cell? ⟨w.heap.size + 1, 1, none⟩ = some (.int .u64 (lim b 1)) := fun x => (LB.later x.below).cell 1 _ rfl
 have kB2 : ∀ x : Ext W1, x.w.cell? ⟨w.heap.size + 1, 2, none⟩ = some (.int .u64 (lim b 2)) := fun x => (LB.later x.below).cell 2 _ rfl
 have kB3 : ∀ x : Ext W1, x.w.cell? ⟨w.heap.size + 1, 3, none⟩ = some (.int .u64 (lim b 3)) := fun x => (LB.later x.below).cell 3 _ rfl
 have kM0 : ∀ x : Ext W1, x.w.cell? ⟨w.heap.size + 1 + 1 + 1, 0, none⟩ = some (.int .u64 (lim (a ^^^ b) 0)) := fun x => (LM.later x.below).cell 0 _ rfl
 have kM1 : ∀ x : Ext W1, x.w.cell? ⟨w.heap.size + 1 + 1 + 1, 1, none⟩ = some (.int .u64 0) := fun x => (LM.later x.below).cell 1 _ rfl
 have kM2 : ∀ x : Ext W1, x.w.cell? ⟨w.heap.size + 1 + 1 + 1, 2, none⟩ = some (.int .u64 0) := fun x => (LM.later x.below).cell 2 _ rfl
 have kM3 : ∀ x : Ext W1, x.w.cell? ⟨w.heap.size + 1 + 1 + 1, 3, none⟩ = some (.int .u64 0) := fun x => (LM.later x.below).cell 3 _ rfl
 refine wpIn_region_mix (C := Grows W1) free_wide [some true, some true, some true, some true, some true, some true, some true, some true, some true, none] hmx (by kernel_rfl) (by kernel_rfl) (grows_refl W1) ?_
 simp only [headOf, tailOf]
 repeat (go_big_quiet_step (first | (with_reducible exact Ret.at O1.out _)))
 refine wpQuiet_nil ?_
 rintro _ ⟨x1, rfl⟩
 clear kB0 kB1 kB2 kB3 kM0 kM1 kM2 kM3
 have LB := LB.later x1.below
 have LR := LR.later x1.below
 have LM := LM.later x1.below
 have LS := LS.later x1.below
 have Q := Q.trans (x1.below.mono Q.size)
 have kc := LM.cell 1 _ rfl
 have kz := LM.frozen 1
 go_wp2
 rw [calmPost_normal]
 clear kc kz
 have LB := LB.other (p := ⟨w.heap.size + 1 + 1 + 1, 1, none⟩) (by simp) (.int .u64 (lim (a ^^^ b) 1))
 have LR := LR.other (p := ⟨w.heap.size + 1 + 1 + 1, 1, none⟩) (by simp) (.int .u64 (lim (a ^^^ b) 1))
 have LS := LS.other (p := ⟨w.heap.size + 1 + 1 + 1, 1, none⟩) (by simp) (.int .u64 (lim (a ^^^ b) 1))
 have LM := LM.set 1 (.int .u64 (lim (a ^^^ b) 1))
 have Q := Q.setCell (p := ⟨w.heap.size + 1 + 1 + 1, 1, none⟩) (show w.heap.size ≤ _ by simp; omega) (.int .u64 (lim (a ^^^ b) 1))
 obtain ⟨W2, hW⟩ : ∃ W2, x1.w.setCell ⟨w.heap.size + 1 + 1 + 1, 1, none⟩ (.int .u64 (lim (a ^^^ b) 1)) = W2 := ⟨_, rfl⟩
 rw [hW] at LB LR LM LS Q ⊢
 clear hW
 gi_wp2_with fail
 replace LM : Has W2 (w.heap.size + 1 + 1 + 1) 24 #[.int .u64 (lim (a ^^^ b) 0), .int .u64 (lim (a ^^^ b) 1), .int .u64 0, .int .u64 0] := LM
 rw [roundsIn_succ]
 gi_wp2_with fail
 have kB0 : ∀ x : Ext W2, x.w.cell? ⟨w.heap.size + 1, 0, none⟩ = some (.int .u64 (lim b 0)) := fun x => (LB.later x.below).cell 0 _ rfl
 have kB1 : ∀ x : Ext W2, x.w.cell? ⟨w.heap.size + 1, 1, none⟩ = some (.int .u64 (lim b 1)) := fun x => (LB.later x.below).cell 1 _ rfl
 have kB2 : ∀ x : Ext W2, x.w.cell? ⟨w.heap.size + 1, 2, none⟩ = some (.int .u64 (lim b 2)) := fun x => (LB.later x.below).cell 2 _ rfl
 have kB3 : ∀ x : Ext W2, x.w.cell? ⟨w.heap.size + 1, 3, none⟩ = some (.int .u64 (lim b 3)) := fun x => (LB.later x.below).cell 3 _ rfl
 have kM0 : ∀ x : Ext W2, x.w.cell? ⟨w.heap.size + 1 + 1 + 1, 0, none⟩ = some (.int .u64 (lim (a ^^^ b) 0)) := fun x => (LM.later x.below).cell 0 _ rfl
 have kM1 : ∀ x : Ext W2, x.w.cell? ⟨w.heap.size + 1 + 1 + 1, 1, none⟩ = some (.int .u64 (lim (a ^^^ b) 1)) := fun x => (LM.later x.below).cell 1 _ rfl
 have kM2 : ∀ x : Ext W2, x.w.cell? ⟨w.heap.size + 1 + 1 + 1, 2, none⟩ = some (.int .u64 0) := fun x => (LM.later x.below).cell 2 _ rfl
 have kM3 : ∀ x : Ext W2, x.w.cell? ⟨w.heap.size + 1 + 1 + 1, 3, none⟩ = some (.int .u64 0) := fun x => (LM.later x.below).cell 3 _ rfl
 refine wpIn_region_mix (C := Grows W2) free_wide [some true, some true, some true, some true, some true, some true, some true, some true, some true, none] hmx (by kernel_rfl) (by kernel_rfl) (grows_refl W2) ?_
 simp only [headOf, tailOf]
 repeat (go_big_quiet_step (first | (with_reducible exact Ret.at O2.out _)))
 refine wpQuiet_nil ?_
 rintro _ ⟨x2, rfl⟩
 clear kB0 kB1 kB2 kB3 kM0 kM1 kM2 kM3
 have LB := LB.later x2.below
 have LR := LR.later x2.below
 have LM := LM.later x2.below
 have LS := LS.later x2.below
 have Q := Q.trans (x2.below.mono Q.size)
 have kc := LM.cell 2 _ rfl
 have kz := LM.frozen 2
 go_wp2
 rw [calmPost_normal]
 clear kc kz
 have LB := LB.other (p := ⟨w.heap.size + 1 + 1 + 1, 2, none⟩) (by simp) (.int .u64 (lim (a ^^^ b) 2))
 have LR := LR.other (p := ⟨w.heap.size + 1 + 1 + 1, 2, none⟩) (by simp) (.int .u64 (lim (a ^^^ b) 2))
 have LS := LS.other (p := ⟨w.heap.size + 1 + 1 + 1, 2, none⟩) (by simp) (.int .u64 (lim (a ^^^ b) 2))
 have LM := LM.set 2 (.int .u64 (lim (a ^^^ b) 2))
 have Q := Q.setCell (p := ⟨w.heap.size + 1 + 1 + 1, 2, none⟩) (show w.heap.size ≤ _ by simp; omega) (.int .u64 (lim (a ^^^ b) 2))
 obtain ⟨W3, hW⟩ : ∃ W3, x2.w.setCell ⟨w.heap.size + 1 + 1 + 1, 2, none⟩ (.int .u64 (lim (a ^^^ b) 2)) = W3 := ⟨_, rfl⟩
 rw [hW] at LB LR LM LS Q ⊢
 clear hW
 gi_wp2_with fail
 replace LM : Has W3 (w.heap.size + 1 + 1 + 1) 24 #[.int .u64 (lim (a ^^^ b) 0), .int .u64 (lim (a ^^^ b) 1), .int .u64 (lim (a ^^^ b) 2), .int .u64 0] := LM
 rw [roundsIn_succ]
 gi_wp2_with fail
 have kB0 : ∀ x : Ext W3, x.w.cell? ⟨w.heap.size + 1, 0, none⟩ = some (.int .u64 (lim b 0)) := fun x => (LB.later x.below).cell 0 _ rfl
 have kB1 : ∀ x : Ext W3, x.w.cell? ⟨w.heap.size + 1, 1, none⟩ = some (.int .u64 (lim b 1)) := fun x => (LB.later x.below).cell 1 _ rfl
 have kB2 : ∀ x : Ext W3, x.w.cell? ⟨w.heap.size + 1, 2, none⟩ = some (.int .u64 (lim b 2)) := fun x => (LB.later x.below).cell 2 _ rfl
 have kB3 : ∀ x : Ext W3, x.w.cell? ⟨w.heap.size + 1, 3, none⟩ = some (.int .u64 (lim b 3)) := fun x => (LB.later x.below).cell 3 _ rfl
 have kM0 : ∀ x : Ext W3, x.w.cell? ⟨w.heap.size + 1 + 1 + 1, 0, none⟩ = some (.int .u64 (lim (a ^^^ b) 0)) := fun x => (LM.later x.below).cell 0 _ rfl
 have kM1 : ∀ x : Ext W3, x.w.cell? ⟨w.heap.size + 1 + 1 + 1, 1, none⟩ = some (.int .u64 (lim (a ^^^ b) 1)) := fun x => (LM.later x.below).cell 1 _ rfl
 have kM2 : ∀ x : Ext W3, x.w.cell? ⟨w.heap.size + 1 + 1 + 1, 2, none⟩ = some (.int .u64 (lim (a ^^^ b) 2)) := fun x => (LM.later x.below).cell 2 _ rfl
 have kM3 : ∀ x : Ext W3, x.w.cell? ⟨w.heap.size + 1 + 1 + 1, 3, none⟩ = some (.int .u64 0) := fun x => (LM.later x.below).cell 3 _ rfl
 refine wpIn_region_mix (C := Grows W3) free_wide [some true, some true, some true, some true, some true, some true, some true, some true, some true, none] hmx (by kernel_rfl) (by kernel_rfl) (grows_refl W3) ?_
 simp only [headOf, tailOf]
 repeat (go_big_quiet_step (first | (with_reducible exact Ret.at O3.out _)))
 refine wpQuiet_nil ?_
 rintro _ ⟨x3, rfl⟩
 clear kB0 kB1 kB2 kB3 kM0 kM1 kM2 kM3
 have LB := LB.later x3.below
 have LR := LR.later x3.below
 have LM := LM.later x3.below
 have LS := LS.later x3.below
 have Q := Q.trans (x3.below.mono Q.size)
 have kc := LM.cell 3 _ rfl
 have kz := LM.frozen 3
 go_wp2
 rw [calmPost_normal]
 clear kc kz
 have LB := LB.other (p := ⟨w.heap.size + 1 + 1 + 1, 3, none⟩) (by simp) (.int .u64 (lim (a ^^^ b) 3))
 have LR := LR.other (p := ⟨w.heap.size + 1 + 1 + 1, 3, none⟩) (by simp) (.int .u64 (lim (a ^^^ b) 3))
 have LS := LS.other (p := ⟨w.heap.size + 1 + 1 + 1, 3, none⟩) (by simp) (.int .u64 (lim (a ^^^ b) 3))
 have LM := LM.set 3 (.int .u64 (lim (a ^^^ b) 3))
 have Q := Q.setCell (p := ⟨w.heap.size + 1 + 1 + 1, 3, none⟩) (show w.heap.size ≤ _ by simp; omega) (.int .u64 (lim (a ^^^ b) 3))
 obtain ⟨W4, hW⟩ : ∃ W4, x3.w.setCell ⟨w.heap.size + 1 + 1 + 1, 3, none⟩ (.int .u64 (lim (a ^^^ b) 3)) = W4 := ⟨_, rfl⟩
 rw [hW] at LB LR LM LS Q ⊢
 clear hW
 gi_wp2_with fail
 replace LM : Has W4 (w.heap.size + 1 + 1 + 1) 24 #[.int .u64 (lim (a ^^^ b) 0), .int .u64 (lim (a ^^^ b) 1), .int .u64 (lim (a ^^^ b) 2), .int .u64 (lim (a ^^^ b) 3)] := LM
 rw [roundsIn_succ]
 have k0 := LM.cell 0 _ rfl
 have r0 := LR.cell 0 _ rfl
 have z0 := LR.frozen 0
 have k1 := LM.cell 1 _ rfl
 have r1 := LR.cell 1 _ rfl
 have z1 := LR.frozen 1
 have k2 := LM.cell 2 _ rfl
 have r2 := LR.cell 2 _ rfl
 have z2 := LR.frozen 2
 have k3 := LM.cell 3 _ rfl
 have r3 := LR.cell 3 _ rfl
 have z3 := LR.frozen 3
 gi_wp2_with fail
 clear k0 r0 z0 k1 r1 z1 k2 r2 z2 k3 r3 z3
 have LR := ((((LR.set 0 (.int .u64 (lim (a ^^^ b) 0))).set 1 (.int .u64 (lim (a ^^^ b) 1))).set 2 (.int .u64 (lim (a ^^^ b) 2))).set 3 (.int .u64 (lim (a ^^^ b) 3)))
 have e0 := LR.cell 0 _ rfl
 have e1 := LR.cell 1 _ rfl
 have e2 := LR.cell 2 _ rfl
 have e3 := LR.cell 3 _ rfl
 have Q := ((((Q.setCell (p := ⟨w.heap.size + 1 + 1, 0, none⟩) (show w.heap.size ≤ _ by simp; omega) (.int .u64 (lim (a ^^^ b) 0))).setCell (p := ⟨w.heap.size + 1 + 1, 1, none⟩) (show w.heap.size ≤ _ by simp; omega) (.int .u64 (lim (a ^^^ b) 1))).setCell (p := ⟨w.heap.size + 1 + 1, 2, none⟩) (show w.heap.size ≤ _ by simp; omega) (.int .u64 (lim (a ^^^ b) 2))).setCell (p := ⟨w.heap.size + 1 + 1, 3, none⟩) (show w.heap.size ≤ _ by simp; omega) (.int .u64 (lim (a ^^^ b) 3)))
 exact ⟨_, by simp [results, Tryz.f152, go_sem, e0, e1, e2, e3], rfl, Q⟩
def deB : List Int := [0, 1, 56, 2, 57, 49, 28, 3, 61, 58, 42, 50, 38, 29, 17, 4, 62, 47, 59, 36, 45, 43, 51, 22, 53, 39, 33, 30, 24, 18, 12, 5, 63, 55, 48, 27, 60, 41, 37, 16, 46, 35, 44, 21, 52, 32, 23, 11, 54, 26, 40, 15, 34, 20, 31, 10, 25, 14, 19, 9, 13, 8, 7, 6]
structure Tab (W : World) : Prop where
 lt : 0 < W.heap.size
 cell : ∀ i, i < 64 → W.cell? ⟨0, i, none⟩ = some (.int .u8 (deB.getD i 0))
theorem Tab.later {W W' : World} (h : Tab W) (hb : Below W.heap.size W W') : Tab W' := ⟨Nat.lt_of_lt_of_le h.lt hb.size, fun i hi => (hb.cell (p := ⟨0, i, none⟩) h.lt).trans (h.cell i hi)⟩
theorem Tab.below {W W' : World} {n : Nat} (h : Tab W) (hb : Below n W W') (hn : 0 < n) : Tab W' := ⟨Nat.lt_of_lt_of_le h.lt hb.size, fun i hi => (hb.cell (p := ⟨0, i, none⟩) hn).trans (h.cell i hi)⟩
theorem Tab.alloc {W : World} (h : Tab W) (o : Obj) : Tab (W.alloc o) := h.later ((Below.refl _ W).alloc (Nat.le_refl _) o)
theorem Tab.other {W : World} (h : Tab W) {p : Addr} (hp : 0 < p.block) (v : Value) : Tab (W.setCell p v) := h.below (n := 1) ((Below.refl 1 W).setCell hp v) (by omega)
theorem deB_fin : ∀ t : Fin 64, deB.getD (2 ^ t.val * 285870213051353865 % 18446744073709551616 / 288230376151711744) 0 = (t.val : Int) ∧ 2 ^ t.val * 285870213051353865 % 18446744073709551616 / 288230376151711744 < 64 := by decide +kernel
theorem deB_get (t : Nat) (ht : t < 64) : ∃ X I : Nat, 2 ^ t * 285870213051353865 % 18446744073709551616 = X ∧ X / 288230376151711744 = I ∧ I < 64 ∧ deB.getD I 0 = (t : Int) :=
 ⟨_, _, rfl, rfl, (deB_fin ⟨t, ht⟩).2, (deB_fin ⟨t, ht⟩).1⟩
theorem tz_walk (p t I : Nat) (N T X : Int) (h1 : IntKind.u64.wrap (-(p : Int)) = N) (h2 : bits .and .u64 (p : Int) N = T) (h3 : IntKind.u64.wrap (T * 285870213051353865) = X) (hI : X / 288230376151711744 = (I : Int)) (hI0 : (I : Int) < 64) (ht : (t : Int) < 64) (hp0 : (p : Int) ≠ 0)
  (w : World) (hc : w.cell? ⟨0, I, none⟩ = some (.int .u8 (t : Int))) : Calls Tryz.prog 181 #[.int .u64 (p : Int)] w fun e w' => e = .returned (.int .i64 (t : Int)) ∧ w' = w := by
 go_enter Tryz.func181, Tryz.ntmps181
 go_wp2
 go_ret
 exact ⟨rfl, rfl⟩
theorem tz_calls (p : Nat) (h0 : p ≠ 0) (hp : p < 18446744073709551616) (w : World) (hT : Tab w) : Calls Tryz.prog 181 #[.int .u64 (p : Int)] w fun e w' => e = .returned (.int .i64 (tz p : Int)) ∧ w' = w := by
 have ht : tz p < 64 := by obtain ⟨_, _, h⟩ := tz_split p h0 hp; exact h
 have ha := and_neg p h0 hp
 generalize tz p = t at *
 obtain ⟨X, I, hX, hI, hI0, hd⟩ := deB_get t ht
 have hc := hT.cell I hI0
 rw [hd] at hc
 refine tz_walk p t I ((18446744073709551616 - p : Nat) : Int) ((2 ^ t : Nat) : Int) (X : Int) ?_ ?_ ?_ (by omega) (by omega) (by omega) (by omega) w hc
 ·rw [IntKind.wrap_u64]; omega
 ·rw [bits_and_u64_nat _ _ hp (by omega), ha]
 ·rw [IntKind.wrap_u64, ← hX]
  generalize 2 ^ t = P
  omega
end Go.Proofs.YtnkhmgmganejmaaGreatDoor
