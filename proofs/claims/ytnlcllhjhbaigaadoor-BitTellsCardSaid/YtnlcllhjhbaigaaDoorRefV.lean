/- The reference's shifts, byte and sign. -/
import Derived.Test.YtnlcllhjhbaigaaDoorRefU
import Derived.Test.YtnlcllhjhbaigaaDoorGhost
namespace Go.Proofs.YtnlcllhjhbaigaaDoor
open Go Go.RowKit
attribute [local go_sem] Oper.semAt_some Grows

/-- A number, at most so many. -/
def capN (a m : Nat) : Nat := if a ≤ m then a else m
theorem capN_le (a m : Nat) : capN a m ≤ m := by unfold capN; split <;> omega

set_option maxRecDepth 100000 in
set_option maxHeartbeats 4000000 in
theorem refShl_walk (p a r : Nat) (n : Int) (h1 : Ret Tryd.prog 45 #[.agg #[.int .u64 (lim p 0), .int .u64 (lim p 1), .int .u64 (lim p 2), .int .u64 (lim p 3)], .int .i64 256] (.int .i64 n)) (h2 : Ret Tryd.prog 44 #[.agg #[.int .u64 (lim a 0), .int .u64 (lim a 1), .int .u64 (lim a 2), .int .u64 (lim a 3)], .int .i64 n, .int .i64 0] (.agg #[.int .u64 (lim r 0), .int .u64 (lim r 1), .int .u64 (lim r 2), .int .u64 (lim r 3)])) (hn : 0 ≤ n ∧ n ≤ 256) :
    Ret Tryd.prog 21 #[.agg #[.int .u64 (lim p 0), .int .u64 (lim p 1), .int .u64 (lim p 2), .int .u64 (lim p 3)], .agg #[.int .u64 (lim a 0), .int .u64 (lim a 1), .int .u64 (lim a 2), .int .u64 (lim a 3)]] (.agg #[.int .u64 (lim r 0), .int .u64 (lim r 1), .int .u64 (lim r 2), .int .u64 (lim r 3)]) := by
  intro w
  have Hh1 := Lib.hid h1
  have Hh2 := Lib.hid h2
  clear h1 h2
  obtain ⟨hn0, hn1⟩ := hn
  go_enter Tryd.func21, Tryd.ntmps21
  have LX := Has.new w 24 #[.int .u64 (lim p 0), .int .u64 (lim p 1), .int .u64 (lim p 2), .int .u64 (lim p 3)]
  have k1 := LX.cell 0 _ rfl
  have k2 := LX.cell 1 _ rfl
  have k3 := LX.cell 2 _ rfl
  have k4 := LX.cell 3 _ rfl
  have LX := LX.alloc (.cells #[.int .u64 (lim a 0), .int .u64 (lim a 1), .int .u64 (lim a 2), .int .u64 (lim a 3)] 24)
  have LY := Has.new (w.alloc (.cells #[.int .u64 (lim p 0), .int .u64 (lim p 1), .int .u64 (lim p 2), .int .u64 (lim p 3)] 24)) 24 #[.int .u64 (lim a 0), .int .u64 (lim a 1), .int .u64 (lim a 2), .int .u64 (lim a 3)]
  simp only [World.size_alloc] at LY
  have k5 := LX.cell 0 _ rfl
  have k6 := LX.cell 1 _ rfl
  have k7 := LX.cell 2 _ rfl
  have k8 := LX.cell 3 _ rfl
  have k9 := LY.cell 0 _ rfl
  have k10 := LY.cell 1 _ rfl
  have k11 := LY.cell 2 _ rfl
  have k12 := LY.cell 3 _ rfl
  have LX := LX.alloc (.cells #[.int .u64 0, .int .u64 0, .int .u64 0, .int .u64 0] 24)
  have LY := LY.alloc (.cells #[.int .u64 0, .int .u64 0, .int .u64 0, .int .u64 0] 24)
  have LR := Has.new ((w.alloc (.cells #[.int .u64 (lim p 0), .int .u64 (lim p 1), .int .u64 (lim p 2), .int .u64 (lim p 3)] 24)).alloc (.cells #[.int .u64 (lim a 0), .int .u64 (lim a 1), .int .u64 (lim a 2), .int .u64 (lim a 3)] 24)) 24 #[.int .u64 0, .int .u64 0, .int .u64 0, .int .u64 0]
  simp only [World.size_alloc] at LR
  have k13 := LX.cell 0 _ rfl
  have k14 := LX.cell 1 _ rfl
  have k15 := LX.cell 2 _ rfl
  have k16 := LX.cell 3 _ rfl
  have k17 := LY.cell 0 _ rfl
  have k18 := LY.cell 1 _ rfl
  have k19 := LY.cell 2 _ rfl
  have k20 := LY.cell 3 _ rfl
  have k21 := LR.cell 0 _ rfl
  have k22 := LR.cell 1 _ rfl
  have k23 := LR.cell 2 _ rfl
  have k24 := LR.cell 3 _ rfl
  have Q := (Below.refl w.heap.size w)
  have Q := Q.alloc Q.size (.cells #[.int .u64 (lim p 0), .int .u64 (lim p 1), .int .u64 (lim p 2), .int .u64 (lim p 3)] 24)
  have Q := Q.alloc Q.size (.cells #[.int .u64 (lim a 0), .int .u64 (lim a 1), .int .u64 (lim a 2), .int .u64 (lim a 3)] 24)
  have Q := Q.alloc Q.size (.cells #[.int .u64 0, .int .u64 0, .int .u64 0, .int .u64 0] 24)
  go_wp2_with fail
  clear k1 k2 k3 k4 k5 k6 k7 k8 k9 k10 k11 k12 k13 k14 k15 k16 k17 k18 k19 k20 k21 k22 k23 k24
  obtain ⟨W1, hW1⟩ : ∃ W1, (((w.alloc (.cells #[.int .u64 (lim p 0), .int .u64 (lim p 1), .int .u64 (lim p 2), .int .u64 (lim p 3)] 24)).alloc (.cells #[.int .u64 (lim a 0), .int .u64 (lim a 1), .int .u64 (lim a 2), .int .u64 (lim a 3)] 24)).alloc (.cells #[.int .u64 0, .int .u64 0, .int .u64 0, .int .u64 0] 24)) = W1 := ⟨_, rfl⟩
  rw [hW1] at LX LY LR Q ⊢
  clear hW1
  have k25 : ∀ x : Ext W1, x.w.cell? ⟨w.heap.size, 0, none⟩ = some (.int .u64 (lim p 0)) := fun x => (LX.later x.below).cell 0 _ rfl
  have k26 : ∀ x : Ext W1, x.w.cell? ⟨w.heap.size, 1, none⟩ = some (.int .u64 (lim p 1)) := fun x => (LX.later x.below).cell 1 _ rfl
  have k27 : ∀ x : Ext W1, x.w.cell? ⟨w.heap.size, 2, none⟩ = some (.int .u64 (lim p 2)) := fun x => (LX.later x.below).cell 2 _ rfl
  have k28 : ∀ x : Ext W1, x.w.cell? ⟨w.heap.size, 3, none⟩ = some (.int .u64 (lim p 3)) := fun x => (LX.later x.below).cell 3 _ rfl
  have k29 : ∀ x : Ext W1, x.w.cell? ⟨w.heap.size + 1, 0, none⟩ = some (.int .u64 (lim a 0)) := fun x => (LY.later x.below).cell 0 _ rfl
  have k30 : ∀ x : Ext W1, x.w.cell? ⟨w.heap.size + 1, 1, none⟩ = some (.int .u64 (lim a 1)) := fun x => (LY.later x.below).cell 1 _ rfl
  have k31 : ∀ x : Ext W1, x.w.cell? ⟨w.heap.size + 1, 2, none⟩ = some (.int .u64 (lim a 2)) := fun x => (LY.later x.below).cell 2 _ rfl
  have k32 : ∀ x : Ext W1, x.w.cell? ⟨w.heap.size + 1, 3, none⟩ = some (.int .u64 (lim a 3)) := fun x => (LY.later x.below).cell 3 _ rfl
  have k33 : ∀ x : Ext W1, x.w.cell? ⟨w.heap.size + 1 + 1, 0, none⟩ = some (.int .u64 0) := fun x => (LR.later x.below).cell 0 _ rfl
  have k34 : ∀ x : Ext W1, x.w.cell? ⟨w.heap.size + 1 + 1, 1, none⟩ = some (.int .u64 0) := fun x => (LR.later x.below).cell 1 _ rfl
  have k35 : ∀ x : Ext W1, x.w.cell? ⟨w.heap.size + 1 + 1, 2, none⟩ = some (.int .u64 0) := fun x => (LR.later x.below).cell 2 _ rfl
  have k36 : ∀ x : Ext W1, x.w.cell? ⟨w.heap.size + 1 + 1, 3, none⟩ = some (.int .u64 0) := fun x => (LR.later x.below).cell 3 _ rfl
  have hmx : Tryd.prog.follows .mixedOrders = true := by kernel_rfl
  refine wp_region_mix (C := Grows W1) [some true, some true, some true, some true, none] hmx (by kernel_rfl) (by kernel_rfl) (grows_refl W1) ?_
  simp only [headOf, tailOf]
  repeat (go_big_quiet_step (first | (with_reducible exact Ret.at Hh1.out _) | (with_reducible exact Ret.at Hh2.out _)))
  refine wpQuiet_nil ?_
  rintro _ ⟨x37, rfl⟩
  clear k25 k26 k27 k28 k29 k30 k31 k32 k33 k34 k35 k36
  have LR := LR.later x37.below
  have Q := Q.trans (x37.below.mono Q.size)
  have r0 := LR.cell 0 _ rfl
  have z0 := LR.frozen 0
  have r1 := LR.cell 1 _ rfl
  have z1 := LR.frozen 1
  have r2 := LR.cell 2 _ rfl
  have z2 := LR.frozen 2
  have r3 := LR.cell 3 _ rfl
  have z3 := LR.frozen 3
  have HR := Lib.hid (((((LR.set 0 (.int .u64 (lim r 0))).set 1 (.int .u64 (lim r 1))).set 2 (.int .u64 (lim r 2))).set 3 (.int .u64 (lim r 3))))
  have HQ := Lib.hid (((((Q.setCell (p := ⟨w.heap.size + 1 + 1, 0, none⟩) (show w.heap.size ≤ _ by simp; first | done | omega) (.int .u64 (lim r 0))).setCell (p := ⟨w.heap.size + 1 + 1, 1, none⟩) (show w.heap.size ≤ _ by simp; first | done | omega) (.int .u64 (lim r 1))).setCell (p := ⟨w.heap.size + 1 + 1, 2, none⟩) (show w.heap.size ≤ _ by simp; first | done | omega) (.int .u64 (lim r 2))).setCell (p := ⟨w.heap.size + 1 + 1, 3, none⟩) (show w.heap.size ≤ _ by simp; first | done | omega) (.int .u64 (lim r 3))))
  clear Q LX LY LR
  go_wp2
  rw [calmPost_normal]
  go_wp2
  refine bodyPost_ret (results_word (m := lim r) rfl rfl HR.out) rfl ⟨rfl, HQ.out⟩

set_option maxRecDepth 100000 in
set_option maxHeartbeats 4000000 in
theorem refShr_walk (p a r : Nat) (n : Int) (h1 : Ret Tryd.prog 45 #[.agg #[.int .u64 (lim p 0), .int .u64 (lim p 1), .int .u64 (lim p 2), .int .u64 (lim p 3)], .int .i64 256] (.int .i64 n)) (h2 : Ret Tryd.prog 44 #[.agg #[.int .u64 (lim a 0), .int .u64 (lim a 1), .int .u64 (lim a 2), .int .u64 (lim a 3)], .int .i64 (-n), .int .i64 0] (.agg #[.int .u64 (lim r 0), .int .u64 (lim r 1), .int .u64 (lim r 2), .int .u64 (lim r 3)])) (hn : 0 ≤ n ∧ n ≤ 256) :
    Ret Tryd.prog 23 #[.agg #[.int .u64 (lim p 0), .int .u64 (lim p 1), .int .u64 (lim p 2), .int .u64 (lim p 3)], .agg #[.int .u64 (lim a 0), .int .u64 (lim a 1), .int .u64 (lim a 2), .int .u64 (lim a 3)]] (.agg #[.int .u64 (lim r 0), .int .u64 (lim r 1), .int .u64 (lim r 2), .int .u64 (lim r 3)]) := by
  intro w
  have Hh1 := Lib.hid h1
  have Hh2 := Lib.hid h2
  clear h1 h2
  obtain ⟨hn0, hn1⟩ := hn
  go_enter Tryd.func23, Tryd.ntmps23
  have LX := Has.new w 24 #[.int .u64 (lim p 0), .int .u64 (lim p 1), .int .u64 (lim p 2), .int .u64 (lim p 3)]
  have k1 := LX.cell 0 _ rfl
  have k2 := LX.cell 1 _ rfl
  have k3 := LX.cell 2 _ rfl
  have k4 := LX.cell 3 _ rfl
  have LX := LX.alloc (.cells #[.int .u64 (lim a 0), .int .u64 (lim a 1), .int .u64 (lim a 2), .int .u64 (lim a 3)] 24)
  have LY := Has.new (w.alloc (.cells #[.int .u64 (lim p 0), .int .u64 (lim p 1), .int .u64 (lim p 2), .int .u64 (lim p 3)] 24)) 24 #[.int .u64 (lim a 0), .int .u64 (lim a 1), .int .u64 (lim a 2), .int .u64 (lim a 3)]
  simp only [World.size_alloc] at LY
  have k5 := LX.cell 0 _ rfl
  have k6 := LX.cell 1 _ rfl
  have k7 := LX.cell 2 _ rfl
  have k8 := LX.cell 3 _ rfl
  have k9 := LY.cell 0 _ rfl
  have k10 := LY.cell 1 _ rfl
  have k11 := LY.cell 2 _ rfl
  have k12 := LY.cell 3 _ rfl
  have LX := LX.alloc (.cells #[.int .u64 0, .int .u64 0, .int .u64 0, .int .u64 0] 24)
  have LY := LY.alloc (.cells #[.int .u64 0, .int .u64 0, .int .u64 0, .int .u64 0] 24)
  have LR := Has.new ((w.alloc (.cells #[.int .u64 (lim p 0), .int .u64 (lim p 1), .int .u64 (lim p 2), .int .u64 (lim p 3)] 24)).alloc (.cells #[.int .u64 (lim a 0), .int .u64 (lim a 1), .int .u64 (lim a 2), .int .u64 (lim a 3)] 24)) 24 #[.int .u64 0, .int .u64 0, .int .u64 0, .int .u64 0]
  simp only [World.size_alloc] at LR
  have k13 := LX.cell 0 _ rfl
  have k14 := LX.cell 1 _ rfl
  have k15 := LX.cell 2 _ rfl
  have k16 := LX.cell 3 _ rfl
  have k17 := LY.cell 0 _ rfl
  have k18 := LY.cell 1 _ rfl
  have k19 := LY.cell 2 _ rfl
  have k20 := LY.cell 3 _ rfl
  have k21 := LR.cell 0 _ rfl
  have k22 := LR.cell 1 _ rfl
  have k23 := LR.cell 2 _ rfl
  have k24 := LR.cell 3 _ rfl
  have Q := (Below.refl w.heap.size w)
  have Q := Q.alloc Q.size (.cells #[.int .u64 (lim p 0), .int .u64 (lim p 1), .int .u64 (lim p 2), .int .u64 (lim p 3)] 24)
  have Q := Q.alloc Q.size (.cells #[.int .u64 (lim a 0), .int .u64 (lim a 1), .int .u64 (lim a 2), .int .u64 (lim a 3)] 24)
  have Q := Q.alloc Q.size (.cells #[.int .u64 0, .int .u64 0, .int .u64 0, .int .u64 0] 24)
  go_wp2_with fail
  clear k1 k2 k3 k4 k5 k6 k7 k8 k9 k10 k11 k12 k13 k14 k15 k16 k17 k18 k19 k20 k21 k22 k23 k24
  obtain ⟨W1, hW1⟩ : ∃ W1, (((w.alloc (.cells #[.int .u64 (lim p 0), .int .u64 (lim p 1), .int .u64 (lim p 2), .int .u64 (lim p 3)] 24)).alloc (.cells #[.int .u64 (lim a 0), .int .u64 (lim a 1), .int .u64 (lim a 2), .int .u64 (lim a 3)] 24)).alloc (.cells #[.int .u64 0, .int .u64 0, .int .u64 0, .int .u64 0] 24)) = W1 := ⟨_, rfl⟩
  rw [hW1] at LX LY LR Q ⊢
  clear hW1
  have k25 : ∀ x : Ext W1, x.w.cell? ⟨w.heap.size, 0, none⟩ = some (.int .u64 (lim p 0)) := fun x => (LX.later x.below).cell 0 _ rfl
  have k26 : ∀ x : Ext W1, x.w.cell? ⟨w.heap.size, 1, none⟩ = some (.int .u64 (lim p 1)) := fun x => (LX.later x.below).cell 1 _ rfl
  have k27 : ∀ x : Ext W1, x.w.cell? ⟨w.heap.size, 2, none⟩ = some (.int .u64 (lim p 2)) := fun x => (LX.later x.below).cell 2 _ rfl
  have k28 : ∀ x : Ext W1, x.w.cell? ⟨w.heap.size, 3, none⟩ = some (.int .u64 (lim p 3)) := fun x => (LX.later x.below).cell 3 _ rfl
  have k29 : ∀ x : Ext W1, x.w.cell? ⟨w.heap.size + 1, 0, none⟩ = some (.int .u64 (lim a 0)) := fun x => (LY.later x.below).cell 0 _ rfl
  have k30 : ∀ x : Ext W1, x.w.cell? ⟨w.heap.size + 1, 1, none⟩ = some (.int .u64 (lim a 1)) := fun x => (LY.later x.below).cell 1 _ rfl
  have k31 : ∀ x : Ext W1, x.w.cell? ⟨w.heap.size + 1, 2, none⟩ = some (.int .u64 (lim a 2)) := fun x => (LY.later x.below).cell 2 _ rfl
  have k32 : ∀ x : Ext W1, x.w.cell? ⟨w.heap.size + 1, 3, none⟩ = some (.int .u64 (lim a 3)) := fun x => (LY.later x.below).cell 3 _ rfl
  have k33 : ∀ x : Ext W1, x.w.cell? ⟨w.heap.size + 1 + 1, 0, none⟩ = some (.int .u64 0) := fun x => (LR.later x.below).cell 0 _ rfl
  have k34 : ∀ x : Ext W1, x.w.cell? ⟨w.heap.size + 1 + 1, 1, none⟩ = some (.int .u64 0) := fun x => (LR.later x.below).cell 1 _ rfl
  have k35 : ∀ x : Ext W1, x.w.cell? ⟨w.heap.size + 1 + 1, 2, none⟩ = some (.int .u64 0) := fun x => (LR.later x.below).cell 2 _ rfl
  have k36 : ∀ x : Ext W1, x.w.cell? ⟨w.heap.size + 1 + 1, 3, none⟩ = some (.int .u64 0) := fun x => (LR.later x.below).cell 3 _ rfl
  have hmx : Tryd.prog.follows .mixedOrders = true := by kernel_rfl
  refine wp_region_mix (C := Grows W1) [some true, some true, some true, some true, some true, none] hmx (by kernel_rfl) (by kernel_rfl) (grows_refl W1) ?_
  simp only [headOf, tailOf]
  repeat (go_big_quiet_step (first | (with_reducible exact Ret.at Hh1.out _) | (with_reducible exact Ret.at Hh2.out _)))
  refine wpQuiet_nil ?_
  rintro _ ⟨x37, rfl⟩
  clear k25 k26 k27 k28 k29 k30 k31 k32 k33 k34 k35 k36
  have LR := LR.later x37.below
  have Q := Q.trans (x37.below.mono Q.size)
  have r0 := LR.cell 0 _ rfl
  have z0 := LR.frozen 0
  have r1 := LR.cell 1 _ rfl
  have z1 := LR.frozen 1
  have r2 := LR.cell 2 _ rfl
  have z2 := LR.frozen 2
  have r3 := LR.cell 3 _ rfl
  have z3 := LR.frozen 3
  have HR := Lib.hid (((((LR.set 0 (.int .u64 (lim r 0))).set 1 (.int .u64 (lim r 1))).set 2 (.int .u64 (lim r 2))).set 3 (.int .u64 (lim r 3))))
  have HQ := Lib.hid (((((Q.setCell (p := ⟨w.heap.size + 1 + 1, 0, none⟩) (show w.heap.size ≤ _ by simp; first | done | omega) (.int .u64 (lim r 0))).setCell (p := ⟨w.heap.size + 1 + 1, 1, none⟩) (show w.heap.size ≤ _ by simp; first | done | omega) (.int .u64 (lim r 1))).setCell (p := ⟨w.heap.size + 1 + 1, 2, none⟩) (show w.heap.size ≤ _ by simp; first | done | omega) (.int .u64 (lim r 2))).setCell (p := ⟨w.heap.size + 1 + 1, 3, none⟩) (show w.heap.size ≤ _ by simp; first | done | omega) (.int .u64 (lim r 3))))
  clear Q LX LY LR
  go_wp2
  rw [calmPost_normal]
  go_wp2
  refine bodyPost_ret (results_word (m := lim r) rfl rfl HR.out) rfl ⟨rfl, HQ.out⟩

set_option maxRecDepth 100000 in
set_option maxHeartbeats 4000000 in
theorem refByte_far (p a : Nat) (h1 : Ret Tryd.prog 45 #[.agg #[.int .u64 (lim p 0), .int .u64 (lim p 1), .int .u64 (lim p 2), .int .u64 (lim p 3)], .int .i64 32] (.int .i64 32)) :
    Ret Tryd.prog 27 #[.agg #[.int .u64 (lim p 0), .int .u64 (lim p 1), .int .u64 (lim p 2), .int .u64 (lim p 3)], .agg #[.int .u64 (lim a 0), .int .u64 (lim a 1), .int .u64 (lim a 2), .int .u64 (lim a 3)]] (.agg #[.int .u64 0, .int .u64 0, .int .u64 0, .int .u64 0]) := by
  intro w
  have Hh1 := Lib.hid h1
  clear h1
  go_enter Tryd.func27, Tryd.ntmps27
  have LX := Has.new w 24 #[.int .u64 (lim p 0), .int .u64 (lim p 1), .int .u64 (lim p 2), .int .u64 (lim p 3)]
  have k1 := LX.cell 0 _ rfl
  have k2 := LX.cell 1 _ rfl
  have k3 := LX.cell 2 _ rfl
  have k4 := LX.cell 3 _ rfl
  have LX := LX.alloc (.cells #[.int .u64 (lim a 0), .int .u64 (lim a 1), .int .u64 (lim a 2), .int .u64 (lim a 3)] 24)
  have LY := Has.new (w.alloc (.cells #[.int .u64 (lim p 0), .int .u64 (lim p 1), .int .u64 (lim p 2), .int .u64 (lim p 3)] 24)) 24 #[.int .u64 (lim a 0), .int .u64 (lim a 1), .int .u64 (lim a 2), .int .u64 (lim a 3)]
  simp only [World.size_alloc] at LY
  have k5 := LX.cell 0 _ rfl
  have k6 := LX.cell 1 _ rfl
  have k7 := LX.cell 2 _ rfl
  have k8 := LX.cell 3 _ rfl
  have k9 := LY.cell 0 _ rfl
  have k10 := LY.cell 1 _ rfl
  have k11 := LY.cell 2 _ rfl
  have k12 := LY.cell 3 _ rfl
  have LX := LX.alloc (.cells #[.int .u64 0, .int .u64 0, .int .u64 0, .int .u64 0] 24)
  have LY := LY.alloc (.cells #[.int .u64 0, .int .u64 0, .int .u64 0, .int .u64 0] 24)
  have LR := Has.new ((w.alloc (.cells #[.int .u64 (lim p 0), .int .u64 (lim p 1), .int .u64 (lim p 2), .int .u64 (lim p 3)] 24)).alloc (.cells #[.int .u64 (lim a 0), .int .u64 (lim a 1), .int .u64 (lim a 2), .int .u64 (lim a 3)] 24)) 24 #[.int .u64 0, .int .u64 0, .int .u64 0, .int .u64 0]
  simp only [World.size_alloc] at LR
  have k13 := LX.cell 0 _ rfl
  have k14 := LX.cell 1 _ rfl
  have k15 := LX.cell 2 _ rfl
  have k16 := LX.cell 3 _ rfl
  have k17 := LY.cell 0 _ rfl
  have k18 := LY.cell 1 _ rfl
  have k19 := LY.cell 2 _ rfl
  have k20 := LY.cell 3 _ rfl
  have k21 := LR.cell 0 _ rfl
  have k22 := LR.cell 1 _ rfl
  have k23 := LR.cell 2 _ rfl
  have k24 := LR.cell 3 _ rfl
  have Q := (Below.refl w.heap.size w)
  have Q := Q.alloc Q.size (.cells #[.int .u64 (lim p 0), .int .u64 (lim p 1), .int .u64 (lim p 2), .int .u64 (lim p 3)] 24)
  have Q := Q.alloc Q.size (.cells #[.int .u64 (lim a 0), .int .u64 (lim a 1), .int .u64 (lim a 2), .int .u64 (lim a 3)] 24)
  have Q := Q.alloc Q.size (.cells #[.int .u64 0, .int .u64 0, .int .u64 0, .int .u64 0] 24)
  go_wp2_with fail
  clear k1 k2 k3 k4 k5 k6 k7 k8 k9 k10 k11 k12 k13 k14 k15 k16 k17 k18 k19 k20 k21 k22 k23 k24
  obtain ⟨W1, hW1⟩ : ∃ W1, (((w.alloc (.cells #[.int .u64 (lim p 0), .int .u64 (lim p 1), .int .u64 (lim p 2), .int .u64 (lim p 3)] 24)).alloc (.cells #[.int .u64 (lim a 0), .int .u64 (lim a 1), .int .u64 (lim a 2), .int .u64 (lim a 3)] 24)).alloc (.cells #[.int .u64 0, .int .u64 0, .int .u64 0, .int .u64 0] 24)) = W1 := ⟨_, rfl⟩
  rw [hW1] at LX LY LR Q ⊢
  clear hW1
  refine (Hh1.out _).mono ?_
  rintro e v25 ⟨rfl, q⟩
  have LX := LX.later q
  have LY := LY.later q
  have LR := LR.later q
  have Q := Q.trans (q.mono Q.size)
  clear q
  have r0 := LR.cell 0 _ rfl
  have z0 := LR.frozen 0
  have r1 := LR.cell 1 _ rfl
  have z1 := LR.frozen 1
  have r2 := LR.cell 2 _ rfl
  have z2 := LR.frozen 2
  have r3 := LR.cell 3 _ rfl
  have z3 := LR.frozen 3
  have k26 := LX.cell 0 _ rfl
  have k27 := LX.cell 1 _ rfl
  have k28 := LX.cell 2 _ rfl
  have k29 := LX.cell 3 _ rfl
  have k30 := LY.cell 0 _ rfl
  have k31 := LY.cell 1 _ rfl
  have k32 := LY.cell 2 _ rfl
  have k33 := LY.cell 3 _ rfl
  have HR := Lib.hid (((((LR.set 0 (.int .u64 0)).set 1 (.int .u64 0)).set 2 (.int .u64 0)).set 3 (.int .u64 0)))
  have HQ := Lib.hid (((((Q.setCell (p := ⟨w.heap.size + 1 + 1, 0, none⟩) (show w.heap.size ≤ _ by simp; first | done | omega) (.int .u64 0)).setCell (p := ⟨w.heap.size + 1 + 1, 1, none⟩) (show w.heap.size ≤ _ by simp; first | done | omega) (.int .u64 0)).setCell (p := ⟨w.heap.size + 1 + 1, 2, none⟩) (show w.heap.size ≤ _ by simp; first | done | omega) (.int .u64 0)).setCell (p := ⟨w.heap.size + 1 + 1, 3, none⟩) (show w.heap.size ≤ _ by simp; first | done | omega) (.int .u64 0)))
  clear Q LX LY LR
  go_wp2
  refine bodyPost_ret (results_word (m := fun _ => 0) rfl rfl HR.out) rfl ⟨rfl, HQ.out⟩

set_option maxRecDepth 100000 in
set_option maxHeartbeats 4000000 in
theorem refByte_in (p a r : Nat) (s : ByteArray) (n v : Int) (h1 : Ret Tryd.prog 45 #[.agg #[.int .u64 (lim p 0), .int .u64 (lim p 1), .int .u64 (lim p 2), .int .u64 (lim p 3)], .int .i64 32] (.int .i64 n)) (h2 : Ret Tryd.prog 33 #[.agg #[.int .u64 (lim a 0), .int .u64 (lim a 1), .int .u64 (lim a 2), .int .u64 (lim a 3)]] (.string s)) (hx : ∀ W, (Instr.index 9 (.string s) (.int .i64 n)).run Tryd.prog W = .ok (.int .u8 v) W) (hn : 0 ≤ n ∧ n < 32) (hv : 0 ≤ v ∧ v < 256) (h3 : Ret Tryd.prog 18 #[.int .i64 v] (.agg #[.int .u64 (lim r 0), .int .u64 (lim r 1), .int .u64 (lim r 2), .int .u64 (lim r 3)])) :
    Ret Tryd.prog 27 #[.agg #[.int .u64 (lim p 0), .int .u64 (lim p 1), .int .u64 (lim p 2), .int .u64 (lim p 3)], .agg #[.int .u64 (lim a 0), .int .u64 (lim a 1), .int .u64 (lim a 2), .int .u64 (lim a 3)]] (.agg #[.int .u64 (lim r 0), .int .u64 (lim r 1), .int .u64 (lim r 2), .int .u64 (lim r 3)]) := by
  intro w
  have Hh1 := Lib.hid h1
  have Hh2 := Lib.hid h2
  have Hh3 := Lib.hid h3
  clear h1 h2 h3
  obtain ⟨hn0, hn1⟩ := hn
  obtain ⟨hv0, hv1⟩ := hv
  have hne : ¬ n = 32 := by omega
  go_enter Tryd.func27, Tryd.ntmps27
  have LX := Has.new w 24 #[.int .u64 (lim p 0), .int .u64 (lim p 1), .int .u64 (lim p 2), .int .u64 (lim p 3)]
  have k1 := LX.cell 0 _ rfl
  have k2 := LX.cell 1 _ rfl
  have k3 := LX.cell 2 _ rfl
  have k4 := LX.cell 3 _ rfl
  have LX := LX.alloc (.cells #[.int .u64 (lim a 0), .int .u64 (lim a 1), .int .u64 (lim a 2), .int .u64 (lim a 3)] 24)
  have LY := Has.new (w.alloc (.cells #[.int .u64 (lim p 0), .int .u64 (lim p 1), .int .u64 (lim p 2), .int .u64 (lim p 3)] 24)) 24 #[.int .u64 (lim a 0), .int .u64 (lim a 1), .int .u64 (lim a 2), .int .u64 (lim a 3)]
  simp only [World.size_alloc] at LY
  have k5 := LX.cell 0 _ rfl
  have k6 := LX.cell 1 _ rfl
  have k7 := LX.cell 2 _ rfl
  have k8 := LX.cell 3 _ rfl
  have k9 := LY.cell 0 _ rfl
  have k10 := LY.cell 1 _ rfl
  have k11 := LY.cell 2 _ rfl
  have k12 := LY.cell 3 _ rfl
  have LX := LX.alloc (.cells #[.int .u64 0, .int .u64 0, .int .u64 0, .int .u64 0] 24)
  have LY := LY.alloc (.cells #[.int .u64 0, .int .u64 0, .int .u64 0, .int .u64 0] 24)
  have LR := Has.new ((w.alloc (.cells #[.int .u64 (lim p 0), .int .u64 (lim p 1), .int .u64 (lim p 2), .int .u64 (lim p 3)] 24)).alloc (.cells #[.int .u64 (lim a 0), .int .u64 (lim a 1), .int .u64 (lim a 2), .int .u64 (lim a 3)] 24)) 24 #[.int .u64 0, .int .u64 0, .int .u64 0, .int .u64 0]
  simp only [World.size_alloc] at LR
  have k13 := LX.cell 0 _ rfl
  have k14 := LX.cell 1 _ rfl
  have k15 := LX.cell 2 _ rfl
  have k16 := LX.cell 3 _ rfl
  have k17 := LY.cell 0 _ rfl
  have k18 := LY.cell 1 _ rfl
  have k19 := LY.cell 2 _ rfl
  have k20 := LY.cell 3 _ rfl
  have k21 := LR.cell 0 _ rfl
  have k22 := LR.cell 1 _ rfl
  have k23 := LR.cell 2 _ rfl
  have k24 := LR.cell 3 _ rfl
  have Q := (Below.refl w.heap.size w)
  have Q := Q.alloc Q.size (.cells #[.int .u64 (lim p 0), .int .u64 (lim p 1), .int .u64 (lim p 2), .int .u64 (lim p 3)] 24)
  have Q := Q.alloc Q.size (.cells #[.int .u64 (lim a 0), .int .u64 (lim a 1), .int .u64 (lim a 2), .int .u64 (lim a 3)] 24)
  have Q := Q.alloc Q.size (.cells #[.int .u64 0, .int .u64 0, .int .u64 0, .int .u64 0] 24)
  go_wp2_with fail
  clear k1 k2 k3 k4 k5 k6 k7 k8 k9 k10 k11 k12 k13 k14 k15 k16 k17 k18 k19 k20 k21 k22 k23 k24
  obtain ⟨W1, hW1⟩ : ∃ W1, (((w.alloc (.cells #[.int .u64 (lim p 0), .int .u64 (lim p 1), .int .u64 (lim p 2), .int .u64 (lim p 3)] 24)).alloc (.cells #[.int .u64 (lim a 0), .int .u64 (lim a 1), .int .u64 (lim a 2), .int .u64 (lim a 3)] 24)).alloc (.cells #[.int .u64 0, .int .u64 0, .int .u64 0, .int .u64 0] 24)) = W1 := ⟨_, rfl⟩
  rw [hW1] at LX LY LR Q ⊢
  clear hW1
  refine (Hh1.out _).mono ?_
  rintro e v25 ⟨rfl, q⟩
  have LX := LX.later q
  have LY := LY.later q
  have LR := LR.later q
  have Q := Q.trans (q.mono Q.size)
  clear q
  have k26 := LX.cell 0 _ rfl
  have k27 := LX.cell 1 _ rfl
  have k28 := LX.cell 2 _ rfl
  have k29 := LX.cell 3 _ rfl
  have k30 := LY.cell 0 _ rfl
  have k31 := LY.cell 1 _ rfl
  have k32 := LY.cell 2 _ rfl
  have k33 := LY.cell 3 _ rfl
  have k34 := LR.cell 0 _ rfl
  have k35 := LR.cell 1 _ rfl
  have k36 := LR.cell 2 _ rfl
  have k37 := LR.cell 3 _ rfl
  go_wp2_with fail
  clear k26 k27 k28 k29 k30 k31 k32 k33 k34 k35 k36 k37
  refine (Hh2.out _).mono ?_
  rintro e v38 ⟨rfl, q⟩
  have LX := LX.later q
  have LY := LY.later q
  have LR := LR.later q
  have Q := Q.trans (q.mono Q.size)
  clear q
  have k39 := LX.cell 0 _ rfl
  have k40 := LX.cell 1 _ rfl
  have k41 := LX.cell 2 _ rfl
  have k42 := LX.cell 3 _ rfl
  have k43 := LY.cell 0 _ rfl
  have k44 := LY.cell 1 _ rfl
  have k45 := LY.cell 2 _ rfl
  have k46 := LY.cell 3 _ rfl
  have k47 := LR.cell 0 _ rfl
  have k48 := LR.cell 1 _ rfl
  have k49 := LR.cell 2 _ rfl
  have k50 := LR.cell 3 _ rfl
  go_wp2_with fail
  clear k39 k40 k41 k42 k43 k44 k45 k46 k47 k48 k49 k50
  refine (Hh3.out _).mono ?_
  rintro e v51 ⟨rfl, q⟩
  have LX := LX.later q
  have LY := LY.later q
  have LR := LR.later q
  have Q := Q.trans (q.mono Q.size)
  clear q
  have r0 := LR.cell 0 _ rfl
  have z0 := LR.frozen 0
  have r1 := LR.cell 1 _ rfl
  have z1 := LR.frozen 1
  have r2 := LR.cell 2 _ rfl
  have z2 := LR.frozen 2
  have r3 := LR.cell 3 _ rfl
  have z3 := LR.frozen 3
  have k52 := LX.cell 0 _ rfl
  have k53 := LX.cell 1 _ rfl
  have k54 := LX.cell 2 _ rfl
  have k55 := LX.cell 3 _ rfl
  have k56 := LY.cell 0 _ rfl
  have k57 := LY.cell 1 _ rfl
  have k58 := LY.cell 2 _ rfl
  have k59 := LY.cell 3 _ rfl
  have HR := Lib.hid (((((LR.set 0 (.int .u64 (lim r 0))).set 1 (.int .u64 (lim r 1))).set 2 (.int .u64 (lim r 2))).set 3 (.int .u64 (lim r 3))))
  have HQ := Lib.hid (((((Q.setCell (p := ⟨w.heap.size + 1 + 1, 0, none⟩) (show w.heap.size ≤ _ by simp; first | done | omega) (.int .u64 (lim r 0))).setCell (p := ⟨w.heap.size + 1 + 1, 1, none⟩) (show w.heap.size ≤ _ by simp; first | done | omega) (.int .u64 (lim r 1))).setCell (p := ⟨w.heap.size + 1 + 1, 2, none⟩) (show w.heap.size ≤ _ by simp; first | done | omega) (.int .u64 (lim r 2))).setCell (p := ⟨w.heap.size + 1 + 1, 3, none⟩) (show w.heap.size ≤ _ by simp; first | done | omega) (.int .u64 (lim r 3))))
  clear Q LX LY LR
  go_wp2
  refine bodyPost_ret (results_word (m := lim r) rfl rfl HR.out) rfl ⟨rfl, HQ.out⟩

set_option maxRecDepth 100000 in
set_option maxHeartbeats 4000000 in
theorem refSar_walk (p a r : Nat) (n : Int) (h1 : Ret Tryd.prog 45 #[.agg #[.int .u64 (lim p 0), .int .u64 (lim p 1), .int .u64 (lim p 2), .int .u64 (lim p 3)], .int .i64 256] (.int .i64 n)) (h2 : Ret Tryd.prog 44 #[.agg #[.int .u64 (lim a 0), .int .u64 (lim a 1), .int .u64 (lim a 2), .int .u64 (lim a 3)], .int .i64 (-n), .int .i64 (bt a 255 : Int)] (.agg #[.int .u64 (lim r 0), .int .u64 (lim r 1), .int .u64 (lim r 2), .int .u64 (lim r 3)])) (hn : 0 ≤ n ∧ n ≤ 256) :
    Ret Tryd.prog 25 #[.agg #[.int .u64 (lim p 0), .int .u64 (lim p 1), .int .u64 (lim p 2), .int .u64 (lim p 3)], .agg #[.int .u64 (lim a 0), .int .u64 (lim a 1), .int .u64 (lim a 2), .int .u64 (lim a 3)]] (.agg #[.int .u64 (lim r 0), .int .u64 (lim r 1), .int .u64 (lim r 2), .int .u64 (lim r 3)]) := by
  intro w
  have Hh1 := Lib.hid h1
  have Hh2 := Lib.hid h2
  clear h1 h2
  obtain ⟨hn0, hn1⟩ := hn
  have HB := Lib.hid (bits_any a)
  unfold wv at HB
  go_enter Tryd.func25, Tryd.ntmps25
  have LX := Has.new w 24 #[.int .u64 (lim p 0), .int .u64 (lim p 1), .int .u64 (lim p 2), .int .u64 (lim p 3)]
  have k1 := LX.cell 0 _ rfl
  have k2 := LX.cell 1 _ rfl
  have k3 := LX.cell 2 _ rfl
  have k4 := LX.cell 3 _ rfl
  have LX := LX.alloc (.cells #[.int .u64 (lim a 0), .int .u64 (lim a 1), .int .u64 (lim a 2), .int .u64 (lim a 3)] 24)
  have LY := Has.new (w.alloc (.cells #[.int .u64 (lim p 0), .int .u64 (lim p 1), .int .u64 (lim p 2), .int .u64 (lim p 3)] 24)) 24 #[.int .u64 (lim a 0), .int .u64 (lim a 1), .int .u64 (lim a 2), .int .u64 (lim a 3)]
  simp only [World.size_alloc] at LY
  have k5 := LX.cell 0 _ rfl
  have k6 := LX.cell 1 _ rfl
  have k7 := LX.cell 2 _ rfl
  have k8 := LX.cell 3 _ rfl
  have k9 := LY.cell 0 _ rfl
  have k10 := LY.cell 1 _ rfl
  have k11 := LY.cell 2 _ rfl
  have k12 := LY.cell 3 _ rfl
  have LX := LX.alloc (.cells #[.int .u64 0, .int .u64 0, .int .u64 0, .int .u64 0] 24)
  have LY := LY.alloc (.cells #[.int .u64 0, .int .u64 0, .int .u64 0, .int .u64 0] 24)
  have LR := Has.new ((w.alloc (.cells #[.int .u64 (lim p 0), .int .u64 (lim p 1), .int .u64 (lim p 2), .int .u64 (lim p 3)] 24)).alloc (.cells #[.int .u64 (lim a 0), .int .u64 (lim a 1), .int .u64 (lim a 2), .int .u64 (lim a 3)] 24)) 24 #[.int .u64 0, .int .u64 0, .int .u64 0, .int .u64 0]
  simp only [World.size_alloc] at LR
  have k13 := LX.cell 0 _ rfl
  have k14 := LX.cell 1 _ rfl
  have k15 := LX.cell 2 _ rfl
  have k16 := LX.cell 3 _ rfl
  have k17 := LY.cell 0 _ rfl
  have k18 := LY.cell 1 _ rfl
  have k19 := LY.cell 2 _ rfl
  have k20 := LY.cell 3 _ rfl
  have k21 := LR.cell 0 _ rfl
  have k22 := LR.cell 1 _ rfl
  have k23 := LR.cell 2 _ rfl
  have k24 := LR.cell 3 _ rfl
  have Q := (Below.refl w.heap.size w)
  have Q := Q.alloc Q.size (.cells #[.int .u64 (lim p 0), .int .u64 (lim p 1), .int .u64 (lim p 2), .int .u64 (lim p 3)] 24)
  have Q := Q.alloc Q.size (.cells #[.int .u64 (lim a 0), .int .u64 (lim a 1), .int .u64 (lim a 2), .int .u64 (lim a 3)] 24)
  have Q := Q.alloc Q.size (.cells #[.int .u64 0, .int .u64 0, .int .u64 0, .int .u64 0] 24)
  go_wp2
  clear k1 k2 k3 k4 k5 k6 k7 k8 k9 k10 k11 k12 k13 k14 k15 k16 k17 k18 k19 k20 k21 k22 k23 k24
  obtain ⟨W1, hW1⟩ : ∃ W1, (((w.alloc (.cells #[.int .u64 (lim p 0), .int .u64 (lim p 1), .int .u64 (lim p 2), .int .u64 (lim p 3)] 24)).alloc (.cells #[.int .u64 (lim a 0), .int .u64 (lim a 1), .int .u64 (lim a 2), .int .u64 (lim a 3)] 24)).alloc (.cells #[.int .u64 0, .int .u64 0, .int .u64 0, .int .u64 0] 24)) = W1 := ⟨_, rfl⟩
  rw [hW1] at LX LY LR Q ⊢
  clear hW1
  have hRw := LR.lt
  refine wp_region_ghost [some (.agg #[.int .u64 (lim a 0), .int .u64 (lim a 1), .int .u64 (lim a 2), .int .u64 (lim a 3)]), some (.agg #[.int .u64 (lim p 0), .int .u64 (lim p 1), .int .u64 (lim p 2), .int .u64 (lim p 3)]), some (.int .i64 n), some (.int .i64 (-n)), some (.agg #[.int .u64 (lim a 0), .int .u64 (lim a 1), .int .u64 (lim a 2), .int .u64 (lim a 3)]), none, none, some (.int .i64 (bt a 255 : Int)), some (.agg #[.int .u64 (lim r 0), .int .u64 (lim r 1), .int .u64 (lim r 2), .int .u64 (lim r 3)]), none] [[], [], [1], [1, 2], [], [1, 2, 4], [1, 2, 4, 5], [1, 2, 4, 5, 6], [0, 1, 2, 3, 4, 5, 6, 7], [0, 1, 2, 3, 4, 5, 6, 7, 8]] (fun f g w' => Below w.heap.size w w' ∧ Has w' (w.heap.size) 24 #[.int .u64 (lim p 0), .int .u64 (lim p 1), .int .u64 (lim p 2), .int .u64 (lim p 3)] ∧ Has w' (w.heap.size + 1) 24 #[.int .u64 (lim a 0), .int .u64 (lim a 1), .int .u64 (lim a 2), .int .u64 (lim a 3)] ∧ Has w' (w.heap.size + 1 + 1) 24 (cellsIf (f 9) #[.int .u64 (lim r 0), .int .u64 (lim r 1), .int .u64 (lim r 2), .int .u64 (lim r 3)] #[.int .u64 0, .int .u64 0, .int .u64 0, .int .u64 0]) ∧ (f 5 = true → ∃ b cp, g 5 = .slice (some ⟨b, 0, none⟩) 256 cp ∧ w.heap.size + 1 + 1 < b ∧ IntsAt w' b 256 (fun j => (bt a j : Int))) ∧ (f 6 = true → ∃ b, g 6 = .pointer (some ⟨b, 255, none⟩) ∧ w.heap.size + 1 + 1 < b ∧ IntsAt w' b 256 (fun j => (bt a j : Int))))
    (by kernel_rfl) (by kernel_rfl) (by kernel_rfl) ?_ ?_ ?_ ?_
  · rintro f g wa wb ⟨u1, u2, u3, u4, u5, u6⟩ hb
    exact ⟨u1.trans (hb.mono u1.size), u2.later hb, u3.later hb, u4.later hb, fun e => by obtain ⟨b, cp, e1, e2, e3⟩ := u5 e; exact ⟨b, cp, e1, e2, e3.later hb⟩, fun e => by obtain ⟨b, e1, e2, e3⟩ := u6 e; exact ⟨b, e1, e2, e3.later hb⟩⟩
  · intro f f' g g' wa h
    have a5 := h 5 rfl
    have a6 := h 6 rfl
    have a9 := h 9 rfl
    simp only [a5.1, a5.2, a6.1, a6.2, a9.1]
    exact id
  · exact ⟨Q.drew, LX, LY, LR, by simp, by simp⟩
  rintro f g y ⟨u1, u2, u3, u4, u5, u6⟩ Dn
  have hRy := u4.lt
  clear LX LY LR Q
  have x0 := u2.cell 0 _ rfl
  have y0 := u3.cell 0 _ rfl
  have x1 := u2.cell 1 _ rfl
  have y1 := u3.cell 1 _ rfl
  have x2 := u2.cell 2 _ rfl
  have y2 := u3.cell 2 _ rfl
  have x3 := u2.cell 3 _ rfl
  have y3 := u3.cell 3 _ rfl
  refine GW.known _ rfl (fun hd hf => ?_) ?_
  · go_wp2
    exact ⟨rfl, rfl, Below.refl _ _⟩
  simp only [Act.put, List.setIfInBounds_toArray, List.set_cons_succ, List.set_cons_zero]
  refine GW.known _ rfl (fun hd hf => ?_) ?_
  · go_wp2
    exact ⟨rfl, rfl, Below.refl _ _⟩
  simp only [Act.put, List.setIfInBounds_toArray, List.set_cons_succ, List.set_cons_zero]
  refine GW.known _ rfl (fun hd hf => ?_) ?_
  · go_wp2_with fail
    refine (Hh1.out _).mono ?_
    rintro e u ⟨rfl, hb⟩
    go_wp2
    exact ⟨rfl, rfl, hb⟩
  simp only [Act.put, List.setIfInBounds_toArray, List.set_cons_succ, List.set_cons_zero]
  refine GW.known _ rfl (fun hd hf => ?_) ?_
  · go_wp2
    exact ⟨rfl, rfl, Below.refl _ _⟩
  simp only [Act.put, List.setIfInBounds_toArray, List.set_cons_succ, List.set_cons_zero]
  refine GW.known _ rfl (fun hd hf => ?_) ?_
  · go_wp2
    exact ⟨rfl, rfl, Below.refl _ _⟩
  simp only [Act.put, List.setIfInBounds_toArray, List.set_cons_succ, List.set_cons_zero]
  refine GW.open rfl (fun hd hf => ?_) ?_
  · go_wp2_with fail
    refine (HB.out _).mono ?_
    rintro e u ⟨b, cp, rfl, hg, hI, hb⟩
    go_wp2
    refine ⟨rfl, u1.trans (hb.mono u1.size), u2.later hb, u3.later hb, ?_, fun _ => ⟨b, cp, upd_self g 5 _, by omega, hI⟩, fun e => ?_⟩
    · rw [upd_ne f true (show (9 : Nat) ≠ 5 by decide)]; exact u4.later hb
    · rw [upd_ne f true (show (6 : Nat) ≠ 5 by decide)] at e
      obtain ⟨b', e1, e2, e3⟩ := u6 e
      exact ⟨b', (upd_ne g _ (show (6 : Nat) ≠ 5 by decide)).trans e1, e2, e3.later hb⟩
  simp only [Act.put, List.setIfInBounds_toArray, List.set_cons_succ, List.set_cons_zero]
  refine GW.open rfl (fun hd hf => ?_) ?_
  · obtain ⟨b, cp, e1, e2, e3⟩ := u5 (hd 5 (by decide))
    rw [e1]
    go_wp2
    refine ⟨rfl, u1, u2, u3, ?_, fun e => ?_, fun _ => ⟨b, upd_self g 6 _, e2, e3⟩⟩
    · rw [upd_ne f true (show (9 : Nat) ≠ 6 by decide)]; exact u4
    · exact ⟨b, cp, (upd_ne g _ (show (5 : Nat) ≠ 6 by decide)).trans e1, e2, e3⟩
  simp only [Act.put, List.setIfInBounds_toArray, List.set_cons_succ, List.set_cons_zero]
  refine GW.known _ rfl (fun hd hf => ?_) ?_
  · obtain ⟨b, e1, e2, e3⟩ := u6 (hd 6 (by decide))
    rw [e1]
    have c255 : y.cell? ⟨b, 255, none⟩ = some (.int .i64 (bt a 255 : Int)) := e3.cell (by omega)
    go_wp2
    exact ⟨rfl, rfl, Below.refl _ _⟩
  simp only [Act.put, List.setIfInBounds_toArray, List.set_cons_succ, List.set_cons_zero]
  refine GW.known _ rfl (fun hd hf => ?_) ?_
  · go_wp2_with fail
    refine (Hh2.out _).mono ?_
    rintro e u ⟨rfl, hb⟩
    go_wp2
    exact ⟨rfl, rfl, hb⟩
  simp only [Act.put, List.setIfInBounds_toArray, List.set_cons_succ, List.set_cons_zero]
  refine GW.open rfl (fun hd hf => ?_) ?_
  · rw [hf, cellsIf_false] at u4
    have c0 := u4.cell 0 _ rfl
    have z0 := u4.frozen 0
    have c1 := u4.cell 1 _ rfl
    have z1 := u4.frozen 1
    have c2 := u4.cell 2 _ rfl
    have z2 := u4.frozen 2
    have c3 := u4.cell 3 _ rfl
    have z3 := u4.frozen 3
    go_wp2
    refine ⟨rfl, ((((u1.setCell (p := ⟨w.heap.size + 1 + 1, 0, none⟩) (show w.heap.size ≤ w.heap.size + 1 + 1 by omega) (.int .u64 (lim r 0))).setCell (p := ⟨w.heap.size + 1 + 1, 1, none⟩) (show w.heap.size ≤ w.heap.size + 1 + 1 by omega) (.int .u64 (lim r 1))).setCell (p := ⟨w.heap.size + 1 + 1, 2, none⟩) (show w.heap.size ≤ w.heap.size + 1 + 1 by omega) (.int .u64 (lim r 2))).setCell (p := ⟨w.heap.size + 1 + 1, 3, none⟩) (show w.heap.size ≤ w.heap.size + 1 + 1 by omega) (.int .u64 (lim r 3))), ((((u2.other (p := ⟨w.heap.size + 1 + 1, 0, none⟩) (show w.heap.size ≠ w.heap.size + 1 + 1 by omega) (.int .u64 (lim r 0))).other (p := ⟨w.heap.size + 1 + 1, 1, none⟩) (show w.heap.size ≠ w.heap.size + 1 + 1 by omega) (.int .u64 (lim r 1))).other (p := ⟨w.heap.size + 1 + 1, 2, none⟩) (show w.heap.size ≠ w.heap.size + 1 + 1 by omega) (.int .u64 (lim r 2))).other (p := ⟨w.heap.size + 1 + 1, 3, none⟩) (show w.heap.size ≠ w.heap.size + 1 + 1 by omega) (.int .u64 (lim r 3))), ((((u3.other (p := ⟨w.heap.size + 1 + 1, 0, none⟩) (show w.heap.size + 1 ≠ w.heap.size + 1 + 1 by omega) (.int .u64 (lim r 0))).other (p := ⟨w.heap.size + 1 + 1, 1, none⟩) (show w.heap.size + 1 ≠ w.heap.size + 1 + 1 by omega) (.int .u64 (lim r 1))).other (p := ⟨w.heap.size + 1 + 1, 2, none⟩) (show w.heap.size + 1 ≠ w.heap.size + 1 + 1 by omega) (.int .u64 (lim r 2))).other (p := ⟨w.heap.size + 1 + 1, 3, none⟩) (show w.heap.size + 1 ≠ w.heap.size + 1 + 1 by omega) (.int .u64 (lim r 3))), ?_, fun e => ?_, fun e => ?_⟩
    · rw [upd_self, cellsIf_true]
      exact ((((u4.set 0 (.int .u64 (lim r 0))).set 1 (.int .u64 (lim r 1))).set 2 (.int .u64 (lim r 2))).set 3 (.int .u64 (lim r 3)))
    · rw [upd_ne f true (show (5 : Nat) ≠ 9 by decide)] at e
      obtain ⟨b, cp, e1, e2, e3⟩ := u5 e
      exact ⟨b, cp, (upd_ne g _ (show (5 : Nat) ≠ 9 by decide)).trans e1, e2, ((((e3.other (p := ⟨w.heap.size + 1 + 1, 0, none⟩) (show b ≠ w.heap.size + 1 + 1 by omega) (.int .u64 (lim r 0))).other (p := ⟨w.heap.size + 1 + 1, 1, none⟩) (show b ≠ w.heap.size + 1 + 1 by omega) (.int .u64 (lim r 1))).other (p := ⟨w.heap.size + 1 + 1, 2, none⟩) (show b ≠ w.heap.size + 1 + 1 by omega) (.int .u64 (lim r 2))).other (p := ⟨w.heap.size + 1 + 1, 3, none⟩) (show b ≠ w.heap.size + 1 + 1 by omega) (.int .u64 (lim r 3)))⟩
    · rw [upd_ne f true (show (6 : Nat) ≠ 9 by decide)] at e
      obtain ⟨b, e1, e2, e3⟩ := u6 e
      exact ⟨b, (upd_ne g _ (show (6 : Nat) ≠ 9 by decide)).trans e1, e2, ((((e3.other (p := ⟨w.heap.size + 1 + 1, 0, none⟩) (show b ≠ w.heap.size + 1 + 1 by omega) (.int .u64 (lim r 0))).other (p := ⟨w.heap.size + 1 + 1, 1, none⟩) (show b ≠ w.heap.size + 1 + 1 by omega) (.int .u64 (lim r 1))).other (p := ⟨w.heap.size + 1 + 1, 2, none⟩) (show b ≠ w.heap.size + 1 + 1 by omega) (.int .u64 (lim r 2))).other (p := ⟨w.heap.size + 1 + 1, 3, none⟩) (show b ≠ w.heap.size + 1 + 1 by omega) (.int .u64 (lim r 3)))⟩
  simp only [Act.put, List.setIfInBounds_toArray, List.set_cons_succ, List.set_cons_zero]
  refine GW.nil (fun hall => ?_)
  rw [hall 9 (by omega), cellsIf_true] at u4
  go_wp2
  refine bodyPost_ret (results_word (m := lim r) rfl rfl u4) rfl ⟨rfl, u1⟩

end Go.Proofs.YtnlcllhjhbaigaaDoor
