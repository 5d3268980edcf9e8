/- The reference's steps of a long division. -/
import Derived.Test.YtnlcllhjhbaigaaDoorRefI
import Derived.Test.YtnlcllhjhbaigaaDoorLawK
namespace Go.Proofs.YtnlcllhjhbaigaaDoor
open Go Go.RowKit
attribute [local go_sem] Oper.semAt_some Grows eq4

theorem zeroP (a : Nat) (ha : W256 a) : (lim a 0 == 0 && lim a 1 == 0 && lim a 2 == 0 && lim a 3 == 0) = decide (a = 0) := by
  by_cases h : a = 0
  · subst h; simp [lim_zero]
  · rw [decide_eq_false h]
    rw [Bool.eq_false_iff]
    intro hc
    simp only [Bool.and_eq_true, beq_iff_eq] at hc
    obtain ⟨⟨⟨h0, h1⟩, h2⟩, h3⟩ := hc
    refine h (lim_ext ha (by unfold W256; omega) fun k hk => ?_)
    rw [lim_zero]
    rcases (show k = 0 ∨ k = 1 ∨ k = 2 ∨ k = 3 by omega) with rfl | rfl | rfl | rfl <;> assumption
theorem results_wordB {fn : Func} {t u : Tmp} {tmps : Array Value} {W : World} {B : Nat} {m : Nat → Int} (h : fn.results = #[ResultVar.cell t 24, ResultVar.tmp u]) (ht : tmps.getD t undef = .pointer (some ⟨B, 0, none⟩)) (hA : Has W B 24 #[.int .u64 (m 0), .int .u64 (m 1), .int .u64 (m 2), .int .u64 (m 3)]) :
    (results fn tmps).run Tryd.prog W = .ok (.tuple #[.agg #[.int .u64 (m 0), .int .u64 (m 1), .int .u64 (m 2), .int .u64 (m 3)], tmps.getD u undef]) W := by
  have e0 := hA.cell 0 _ rfl
  have e1 := hA.cell 1 _ rfl
  have e2 := hA.cell 2 _ rfl
  have e3 := hA.cell 3 _ rfl
  simp at ht
  simp [results, h, ht, go_sem, e0, e1, e2, e3]

set_option maxRecDepth 100000 in
set_option maxHeartbeats 1000000 in
theorem refNone_ret (a : Nat) (ha : W256 a) : Ret Tryd.prog 52 #[wv a] (.bool (decide (a = 0))) := by
  intro w
  rw [← zeroP a ha]
  unfold wv
  go_enter Tryd.func52, Tryd.ntmps52
  go_wp2
  go_ret
  exact ⟨rfl, (Below.refl _ w).alloc (Nat.le_refl _) _⟩


set_option maxRecDepth 100000 in
set_option maxHeartbeats 4000000 in
theorem less_over (x n s : Nat) (c : Int) (hs : Ret Tryd.prog 68 #[.agg #[.int .u64 (lim x 0), .int .u64 (lim x 1), .int .u64 (lim x 2), .int .u64 (lim x 3)], .agg #[.int .u64 (lim n 0), .int .u64 (lim n 1), .int .u64 (lim n 2), .int .u64 (lim n 3)]] (.agg #[.int .u64 (lim s 0), .int .u64 (lim s 1), .int .u64 (lim s 2), .int .u64 (lim s 3)])) :
    Ret Tryd.prog 67 #[.agg #[.int .u64 (lim x 0), .int .u64 (lim x 1), .int .u64 (lim x 2), .int .u64 (lim x 3)], .bool true, .agg #[.int .u64 (lim n 0), .int .u64 (lim n 1), .int .u64 (lim n 2), .int .u64 (lim n 3)]] (.tuple #[.agg #[.int .u64 (lim s 0), .int .u64 (lim s 1), .int .u64 (lim s 2), .int .u64 (lim s 3)], .bool true]) := by
  intro w
  have Hhs := Lib.hid hs
  clear hs
  go_enter Tryd.func67, Tryd.ntmps67
  have LX := Has.new w 24 #[.int .u64 (lim x 0), .int .u64 (lim x 1), .int .u64 (lim x 2), .int .u64 (lim x 3)]
  have k1 := LX.cell 0 _ rfl
  have k2 := LX.cell 1 _ rfl
  have k3 := LX.cell 2 _ rfl
  have k4 := LX.cell 3 _ rfl
  have LX := LX.alloc (.cells #[.int .u64 (lim n 0), .int .u64 (lim n 1), .int .u64 (lim n 2), .int .u64 (lim n 3)] 24)
  have LN := Has.new (w.alloc (.cells #[.int .u64 (lim x 0), .int .u64 (lim x 1), .int .u64 (lim x 2), .int .u64 (lim x 3)] 24)) 24 #[.int .u64 (lim n 0), .int .u64 (lim n 1), .int .u64 (lim n 2), .int .u64 (lim n 3)]
  simp only [World.size_alloc] at LN
  have k5 := LX.cell 0 _ rfl
  have k6 := LX.cell 1 _ rfl
  have k7 := LX.cell 2 _ rfl
  have k8 := LX.cell 3 _ rfl
  have k9 := LN.cell 0 _ rfl
  have k10 := LN.cell 1 _ rfl
  have k11 := LN.cell 2 _ rfl
  have k12 := LN.cell 3 _ rfl
  have LX := LX.alloc (.cells #[.int .u64 0, .int .u64 0, .int .u64 0, .int .u64 0] 24)
  have LN := LN.alloc (.cells #[.int .u64 0, .int .u64 0, .int .u64 0, .int .u64 0] 24)
  have LR := Has.new ((w.alloc (.cells #[.int .u64 (lim x 0), .int .u64 (lim x 1), .int .u64 (lim x 2), .int .u64 (lim x 3)] 24)).alloc (.cells #[.int .u64 (lim n 0), .int .u64 (lim n 1), .int .u64 (lim n 2), .int .u64 (lim n 3)] 24)) 24 #[.int .u64 0, .int .u64 0, .int .u64 0, .int .u64 0]
  simp only [World.size_alloc] at LR
  have k13 := LX.cell 0 _ rfl
  have k14 := LX.cell 1 _ rfl
  have k15 := LX.cell 2 _ rfl
  have k16 := LX.cell 3 _ rfl
  have k17 := LN.cell 0 _ rfl
  have k18 := LN.cell 1 _ rfl
  have k19 := LN.cell 2 _ rfl
  have k20 := LN.cell 3 _ rfl
  have k21 := LR.cell 0 _ rfl
  have k22 := LR.cell 1 _ rfl
  have k23 := LR.cell 2 _ rfl
  have k24 := LR.cell 3 _ rfl
  have Q := (Below.refl w.heap.size w)
  have Q := Q.alloc Q.size (.cells #[.int .u64 (lim x 0), .int .u64 (lim x 1), .int .u64 (lim x 2), .int .u64 (lim x 3)] 24)
  have Q := Q.alloc Q.size (.cells #[.int .u64 (lim n 0), .int .u64 (lim n 1), .int .u64 (lim n 2), .int .u64 (lim n 3)] 24)
  have Q := Q.alloc Q.size (.cells #[.int .u64 0, .int .u64 0, .int .u64 0, .int .u64 0] 24)
  go_wp2_with fail
  clear k1 k2 k3 k4 k5 k6 k7 k8 k9 k10 k11 k12 k13 k14 k15 k16 k17 k18 k19 k20 k21 k22 k23 k24
  obtain ⟨W1, hW1⟩ : ∃ W1, (((w.alloc (.cells #[.int .u64 (lim x 0), .int .u64 (lim x 1), .int .u64 (lim x 2), .int .u64 (lim x 3)] 24)).alloc (.cells #[.int .u64 (lim n 0), .int .u64 (lim n 1), .int .u64 (lim n 2), .int .u64 (lim n 3)] 24)).alloc (.cells #[.int .u64 0, .int .u64 0, .int .u64 0, .int .u64 0] 24)) = W1 := ⟨_, rfl⟩
  rw [hW1] at LX LN LR Q ⊢
  clear hW1
  refine (Hhs.out _).mono ?_
  rintro e v25 ⟨rfl, q⟩
  have LX := LX.later q
  have LN := LN.later q
  have LR := LR.later q
  have Q := Q.trans (q.mono Q.size)
  clear q
  have r0 := LR.cell 0 _ rfl
  have z0 := LR.frozen 0
  have r1 := LR.cell 1 _ rfl
  have z1 := LR.frozen 1
  have r2 := LR.cell 2 _ rfl
  have z2 := LR.frozen 2
  have r3 := LR.cell 3 _ rfl
  have z3 := LR.frozen 3
  have HR := Lib.hid (((((LR.set 0 (.int .u64 (lim s 0))).set 1 (.int .u64 (lim s 1))).set 2 (.int .u64 (lim s 2))).set 3 (.int .u64 (lim s 3))))
  have HQ := Lib.hid (((((Q.setCell (p := ⟨w.heap.size + 1 + 1, 0, none⟩) (show w.heap.size ≤ _ by simp; first | done | omega) (.int .u64 (lim s 0))).setCell (p := ⟨w.heap.size + 1 + 1, 1, none⟩) (show w.heap.size ≤ _ by simp; first | done | omega) (.int .u64 (lim s 1))).setCell (p := ⟨w.heap.size + 1 + 1, 2, none⟩) (show w.heap.size ≤ _ by simp; first | done | omega) (.int .u64 (lim s 2))).setCell (p := ⟨w.heap.size + 1 + 1, 3, none⟩) (show w.heap.size ≤ _ by simp; first | done | omega) (.int .u64 (lim s 3))))
  have k26 := LX.cell 0 _ rfl
  have k27 := LX.cell 1 _ rfl
  have k28 := LX.cell 2 _ rfl
  have k29 := LX.cell 3 _ rfl
  have k30 := LN.cell 0 _ rfl
  have k31 := LN.cell 1 _ rfl
  have k32 := LN.cell 2 _ rfl
  have k33 := LN.cell 3 _ rfl
  clear Q LX LN LR
  go_wp2
  refine bodyPost_ret (results_wordB (m := lim s) rfl rfl HR.out) rfl ⟨rfl, HQ.out⟩

set_option maxRecDepth 100000 in
set_option maxHeartbeats 4000000 in
theorem less_take (x n s : Nat) (c : Int) (hc : Ret Tryd.prog 41 #[.agg #[.int .u64 (lim x 0), .int .u64 (lim x 1), .int .u64 (lim x 2), .int .u64 (lim x 3)], .agg #[.int .u64 (lim n 0), .int .u64 (lim n 1), .int .u64 (lim n 2), .int .u64 (lim n 3)]] (.int .i64 c)) (hs : Ret Tryd.prog 68 #[.agg #[.int .u64 (lim x 0), .int .u64 (lim x 1), .int .u64 (lim x 2), .int .u64 (lim x 3)], .agg #[.int .u64 (lim n 0), .int .u64 (lim n 1), .int .u64 (lim n 2), .int .u64 (lim n 3)]] (.agg #[.int .u64 (lim s 0), .int .u64 (lim s 1), .int .u64 (lim s 2), .int .u64 (lim s 3)])) (hge : 0 ≤ c) :
    Ret Tryd.prog 67 #[.agg #[.int .u64 (lim x 0), .int .u64 (lim x 1), .int .u64 (lim x 2), .int .u64 (lim x 3)], .bool false, .agg #[.int .u64 (lim n 0), .int .u64 (lim n 1), .int .u64 (lim n 2), .int .u64 (lim n 3)]] (.tuple #[.agg #[.int .u64 (lim s 0), .int .u64 (lim s 1), .int .u64 (lim s 2), .int .u64 (lim s 3)], .bool true]) := by
  intro w
  have Hhc := Lib.hid hc
  have Hhs := Lib.hid hs
  clear hc hs
  go_enter Tryd.func67, Tryd.ntmps67
  have LX := Has.new w 24 #[.int .u64 (lim x 0), .int .u64 (lim x 1), .int .u64 (lim x 2), .int .u64 (lim x 3)]
  have k1 := LX.cell 0 _ rfl
  have k2 := LX.cell 1 _ rfl
  have k3 := LX.cell 2 _ rfl
  have k4 := LX.cell 3 _ rfl
  have LX := LX.alloc (.cells #[.int .u64 (lim n 0), .int .u64 (lim n 1), .int .u64 (lim n 2), .int .u64 (lim n 3)] 24)
  have LN := Has.new (w.alloc (.cells #[.int .u64 (lim x 0), .int .u64 (lim x 1), .int .u64 (lim x 2), .int .u64 (lim x 3)] 24)) 24 #[.int .u64 (lim n 0), .int .u64 (lim n 1), .int .u64 (lim n 2), .int .u64 (lim n 3)]
  simp only [World.size_alloc] at LN
  have k5 := LX.cell 0 _ rfl
  have k6 := LX.cell 1 _ rfl
  have k7 := LX.cell 2 _ rfl
  have k8 := LX.cell 3 _ rfl
  have k9 := LN.cell 0 _ rfl
  have k10 := LN.cell 1 _ rfl
  have k11 := LN.cell 2 _ rfl
  have k12 := LN.cell 3 _ rfl
  have LX := LX.alloc (.cells #[.int .u64 0, .int .u64 0, .int .u64 0, .int .u64 0] 24)
  have LN := LN.alloc (.cells #[.int .u64 0, .int .u64 0, .int .u64 0, .int .u64 0] 24)
  have LR := Has.new ((w.alloc (.cells #[.int .u64 (lim x 0), .int .u64 (lim x 1), .int .u64 (lim x 2), .int .u64 (lim x 3)] 24)).alloc (.cells #[.int .u64 (lim n 0), .int .u64 (lim n 1), .int .u64 (lim n 2), .int .u64 (lim n 3)] 24)) 24 #[.int .u64 0, .int .u64 0, .int .u64 0, .int .u64 0]
  simp only [World.size_alloc] at LR
  have k13 := LX.cell 0 _ rfl
  have k14 := LX.cell 1 _ rfl
  have k15 := LX.cell 2 _ rfl
  have k16 := LX.cell 3 _ rfl
  have k17 := LN.cell 0 _ rfl
  have k18 := LN.cell 1 _ rfl
  have k19 := LN.cell 2 _ rfl
  have k20 := LN.cell 3 _ rfl
  have k21 := LR.cell 0 _ rfl
  have k22 := LR.cell 1 _ rfl
  have k23 := LR.cell 2 _ rfl
  have k24 := LR.cell 3 _ rfl
  have Q := (Below.refl w.heap.size w)
  have Q := Q.alloc Q.size (.cells #[.int .u64 (lim x 0), .int .u64 (lim x 1), .int .u64 (lim x 2), .int .u64 (lim x 3)] 24)
  have Q := Q.alloc Q.size (.cells #[.int .u64 (lim n 0), .int .u64 (lim n 1), .int .u64 (lim n 2), .int .u64 (lim n 3)] 24)
  have Q := Q.alloc Q.size (.cells #[.int .u64 0, .int .u64 0, .int .u64 0, .int .u64 0] 24)
  go_wp2_with fail
  clear k1 k2 k3 k4 k5 k6 k7 k8 k9 k10 k11 k12 k13 k14 k15 k16 k17 k18 k19 k20 k21 k22 k23 k24
  obtain ⟨W1, hW1⟩ : ∃ W1, (((w.alloc (.cells #[.int .u64 (lim x 0), .int .u64 (lim x 1), .int .u64 (lim x 2), .int .u64 (lim x 3)] 24)).alloc (.cells #[.int .u64 (lim n 0), .int .u64 (lim n 1), .int .u64 (lim n 2), .int .u64 (lim n 3)] 24)).alloc (.cells #[.int .u64 0, .int .u64 0, .int .u64 0, .int .u64 0] 24)) = W1 := ⟨_, rfl⟩
  rw [hW1] at LX LN LR Q ⊢
  clear hW1
  refine (Hhc.out _).mono ?_
  rintro e v25 ⟨rfl, q⟩
  have LX := LX.later q
  have LN := LN.later q
  have LR := LR.later q
  have Q := Q.trans (q.mono Q.size)
  clear q
  have k26 := LX.cell 0 _ rfl
  have k27 := LX.cell 1 _ rfl
  have k28 := LX.cell 2 _ rfl
  have k29 := LX.cell 3 _ rfl
  have k30 := LN.cell 0 _ rfl
  have k31 := LN.cell 1 _ rfl
  have k32 := LN.cell 2 _ rfl
  have k33 := LN.cell 3 _ rfl
  have k34 := LR.cell 0 _ rfl
  have k35 := LR.cell 1 _ rfl
  have k36 := LR.cell 2 _ rfl
  have k37 := LR.cell 3 _ rfl
  go_wp2_with fail
  clear k26 k27 k28 k29 k30 k31 k32 k33 k34 k35 k36 k37
  refine (Hhs.out _).mono ?_
  rintro e v38 ⟨rfl, q⟩
  have LX := LX.later q
  have LN := LN.later q
  have LR := LR.later q
  have Q := Q.trans (q.mono Q.size)
  clear q
  have r0 := LR.cell 0 _ rfl
  have z0 := LR.frozen 0
  have r1 := LR.cell 1 _ rfl
  have z1 := LR.frozen 1
  have r2 := LR.cell 2 _ rfl
  have z2 := LR.frozen 2
  have r3 := LR.cell 3 _ rfl
  have z3 := LR.frozen 3
  have HR := Lib.hid (((((LR.set 0 (.int .u64 (lim s 0))).set 1 (.int .u64 (lim s 1))).set 2 (.int .u64 (lim s 2))).set 3 (.int .u64 (lim s 3))))
  have HQ := Lib.hid (((((Q.setCell (p := ⟨w.heap.size + 1 + 1, 0, none⟩) (show w.heap.size ≤ _ by simp; first | done | omega) (.int .u64 (lim s 0))).setCell (p := ⟨w.heap.size + 1 + 1, 1, none⟩) (show w.heap.size ≤ _ by simp; first | done | omega) (.int .u64 (lim s 1))).setCell (p := ⟨w.heap.size + 1 + 1, 2, none⟩) (show w.heap.size ≤ _ by simp; first | done | omega) (.int .u64 (lim s 2))).setCell (p := ⟨w.heap.size + 1 + 1, 3, none⟩) (show w.heap.size ≤ _ by simp; first | done | omega) (.int .u64 (lim s 3))))
  have k39 := LX.cell 0 _ rfl
  have k40 := LX.cell 1 _ rfl
  have k41 := LX.cell 2 _ rfl
  have k42 := LX.cell 3 _ rfl
  have k43 := LN.cell 0 _ rfl
  have k44 := LN.cell 1 _ rfl
  have k45 := LN.cell 2 _ rfl
  have k46 := LN.cell 3 _ rfl
  clear Q LX LN LR
  go_wp2
  refine bodyPost_ret (results_wordB (m := lim s) rfl rfl HR.out) rfl ⟨rfl, HQ.out⟩

set_option maxRecDepth 100000 in
set_option maxHeartbeats 4000000 in
theorem less_keep (x n s : Nat) (c : Int) (hc : Ret Tryd.prog 41 #[.agg #[.int .u64 (lim x 0), .int .u64 (lim x 1), .int .u64 (lim x 2), .int .u64 (lim x 3)], .agg #[.int .u64 (lim n 0), .int .u64 (lim n 1), .int .u64 (lim n 2), .int .u64 (lim n 3)]] (.int .i64 c)) (hlt : ¬ 0 ≤ c) :
    Ret Tryd.prog 67 #[.agg #[.int .u64 (lim x 0), .int .u64 (lim x 1), .int .u64 (lim x 2), .int .u64 (lim x 3)], .bool false, .agg #[.int .u64 (lim n 0), .int .u64 (lim n 1), .int .u64 (lim n 2), .int .u64 (lim n 3)]] (.tuple #[.agg #[.int .u64 (lim x 0), .int .u64 (lim x 1), .int .u64 (lim x 2), .int .u64 (lim x 3)], .bool false]) := by
  intro w
  have Hhc := Lib.hid hc
  clear hc
  go_enter Tryd.func67, Tryd.ntmps67
  have LX := Has.new w 24 #[.int .u64 (lim x 0), .int .u64 (lim x 1), .int .u64 (lim x 2), .int .u64 (lim x 3)]
  have k1 := LX.cell 0 _ rfl
  have k2 := LX.cell 1 _ rfl
  have k3 := LX.cell 2 _ rfl
  have k4 := LX.cell 3 _ rfl
  have LX := LX.alloc (.cells #[.int .u64 (lim n 0), .int .u64 (lim n 1), .int .u64 (lim n 2), .int .u64 (lim n 3)] 24)
  have LN := Has.new (w.alloc (.cells #[.int .u64 (lim x 0), .int .u64 (lim x 1), .int .u64 (lim x 2), .int .u64 (lim x 3)] 24)) 24 #[.int .u64 (lim n 0), .int .u64 (lim n 1), .int .u64 (lim n 2), .int .u64 (lim n 3)]
  simp only [World.size_alloc] at LN
  have k5 := LX.cell 0 _ rfl
  have k6 := LX.cell 1 _ rfl
  have k7 := LX.cell 2 _ rfl
  have k8 := LX.cell 3 _ rfl
  have k9 := LN.cell 0 _ rfl
  have k10 := LN.cell 1 _ rfl
  have k11 := LN.cell 2 _ rfl
  have k12 := LN.cell 3 _ rfl
  have LX := LX.alloc (.cells #[.int .u64 0, .int .u64 0, .int .u64 0, .int .u64 0] 24)
  have LN := LN.alloc (.cells #[.int .u64 0, .int .u64 0, .int .u64 0, .int .u64 0] 24)
  have LR := Has.new ((w.alloc (.cells #[.int .u64 (lim x 0), .int .u64 (lim x 1), .int .u64 (lim x 2), .int .u64 (lim x 3)] 24)).alloc (.cells #[.int .u64 (lim n 0), .int .u64 (lim n 1), .int .u64 (lim n 2), .int .u64 (lim n 3)] 24)) 24 #[.int .u64 0, .int .u64 0, .int .u64 0, .int .u64 0]
  simp only [World.size_alloc] at LR
  have k13 := LX.cell 0 _ rfl
  have k14 := LX.cell 1 _ rfl
  have k15 := LX.cell 2 _ rfl
  have k16 := LX.cell 3 _ rfl
  have k17 := LN.cell 0 _ rfl
  have k18 := LN.cell 1 _ rfl
  have k19 := LN.cell 2 _ rfl
  have k20 := LN.cell 3 _ rfl
  have k21 := LR.cell 0 _ rfl
  have k22 := LR.cell 1 _ rfl
  have k23 := LR.cell 2 _ rfl
  have k24 := LR.cell 3 _ rfl
  have Q := (Below.refl w.heap.size w)
  have Q := Q.alloc Q.size (.cells #[.int .u64 (lim x 0), .int .u64 (lim x 1), .int .u64 (lim x 2), .int .u64 (lim x 3)] 24)
  have Q := Q.alloc Q.size (.cells #[.int .u64 (lim n 0), .int .u64 (lim n 1), .int .u64 (lim n 2), .int .u64 (lim n 3)] 24)
  have Q := Q.alloc Q.size (.cells #[.int .u64 0, .int .u64 0, .int .u64 0, .int .u64 0] 24)
  go_wp2_with fail
  clear k1 k2 k3 k4 k5 k6 k7 k8 k9 k10 k11 k12 k13 k14 k15 k16 k17 k18 k19 k20 k21 k22 k23 k24
  obtain ⟨W1, hW1⟩ : ∃ W1, (((w.alloc (.cells #[.int .u64 (lim x 0), .int .u64 (lim x 1), .int .u64 (lim x 2), .int .u64 (lim x 3)] 24)).alloc (.cells #[.int .u64 (lim n 0), .int .u64 (lim n 1), .int .u64 (lim n 2), .int .u64 (lim n 3)] 24)).alloc (.cells #[.int .u64 0, .int .u64 0, .int .u64 0, .int .u64 0] 24)) = W1 := ⟨_, rfl⟩
  rw [hW1] at LX LN LR Q ⊢
  clear hW1
  refine (Hhc.out _).mono ?_
  rintro e v25 ⟨rfl, q⟩
  have LX := LX.later q
  have LN := LN.later q
  have LR := LR.later q
  have Q := Q.trans (q.mono Q.size)
  clear q
  have r0 := LR.cell 0 _ rfl
  have z0 := LR.frozen 0
  have r1 := LR.cell 1 _ rfl
  have z1 := LR.frozen 1
  have r2 := LR.cell 2 _ rfl
  have z2 := LR.frozen 2
  have r3 := LR.cell 3 _ rfl
  have z3 := LR.frozen 3
  have HR := Lib.hid (((((LR.set 0 (.int .u64 (lim x 0))).set 1 (.int .u64 (lim x 1))).set 2 (.int .u64 (lim x 2))).set 3 (.int .u64 (lim x 3))))
  have HQ := Lib.hid (((((Q.setCell (p := ⟨w.heap.size + 1 + 1, 0, none⟩) (show w.heap.size ≤ _ by simp; first | done | omega) (.int .u64 (lim x 0))).setCell (p := ⟨w.heap.size + 1 + 1, 1, none⟩) (show w.heap.size ≤ _ by simp; first | done | omega) (.int .u64 (lim x 1))).setCell (p := ⟨w.heap.size + 1 + 1, 2, none⟩) (show w.heap.size ≤ _ by simp; first | done | omega) (.int .u64 (lim x 2))).setCell (p := ⟨w.heap.size + 1 + 1, 3, none⟩) (show w.heap.size ≤ _ by simp; first | done | omega) (.int .u64 (lim x 3))))
  have k26 := LX.cell 0 _ rfl
  have k27 := LX.cell 1 _ rfl
  have k28 := LX.cell 2 _ rfl
  have k29 := LX.cell 3 _ rfl
  have k30 := LN.cell 0 _ rfl
  have k31 := LN.cell 1 _ rfl
  have k32 := LN.cell 2 _ rfl
  have k33 := LN.cell 3 _ rfl
  clear Q LX LN LR
  go_wp2
  refine bodyPost_ret (results_wordB (m := lim x) rfl rfl HR.out) rfl ⟨rfl, HQ.out⟩


/-- One step: what is less than twice n, and whether n was taken away. -/
theorem refLess_ret (x n : Nat) (o : Bool) (hx : W256 x) (hn : W256 n) : Ret Tryd.prog 67 #[wv x, .bool o, wv n] (.tuple #[wv (if o = true ∨ n ≤ x then wsub x n else x), .bool (decide (o = true ∨ n ≤ x))]) := by
  have hc : (0 ≤ wcmp x n) ↔ n ≤ x := by unfold wcmp; by_cases h : x < n <;> by_cases h2 : n < x <;> simp [h, h2] <;> omega
  cases o with
  | true =>
    simp only [true_or, if_true, decide_true]
    exact less_over x n (wsub x n) 0 (refSub_ret x n hx hn)
  | false =>
    have hor : (false = true ∨ n ≤ x) = (n ≤ x) := by simp
    simp only [hor]
    by_cases h : n ≤ x
    · simp only [h, if_true, decide_true]
      exact less_take x n (wsub x n) (wcmp x n) (refCmp_ret x n hx hn) (refSub_ret x n hx hn) (hc.2 h)
    · simp only [h, if_false, decide_false]
      exact less_keep x n 0 (wcmp x n) (refCmp_ret x n hx hn) (fun h' => h (hc.1 h'))

set_option maxRecDepth 100000 in
set_option maxHeartbeats 4000000 in
theorem double_plain (x n s s2 r : Nat) (t : Bool) (ha : Ret Tryd.prog 66 #[.agg #[.int .u64 (lim x 0), .int .u64 (lim x 1), .int .u64 (lim x 2), .int .u64 (lim x 3)], .agg #[.int .u64 (lim x 0), .int .u64 (lim x 1), .int .u64 (lim x 2), .int .u64 (lim x 3)]] (.agg #[.int .u64 (lim s 0), .int .u64 (lim s 1), .int .u64 (lim s 2), .int .u64 (lim s 3)])) (hl : Ret Tryd.prog 67 #[.agg #[.int .u64 (lim s 0), .int .u64 (lim s 1), .int .u64 (lim s 2), .int .u64 (lim s 3)], .bool (decide (9223372036854775808 ≤ lim x 3)), .agg #[.int .u64 (lim n 0), .int .u64 (lim n 1), .int .u64 (lim n 2), .int .u64 (lim n 3)]] (.tuple #[.agg #[.int .u64 (lim r 0), .int .u64 (lim r 1), .int .u64 (lim r 2), .int .u64 (lim r 3)], .bool t])) :
    Ret Tryd.prog 61 #[.agg #[.int .u64 (lim x 0), .int .u64 (lim x 1), .int .u64 (lim x 2), .int .u64 (lim x 3)], .bool false, .agg #[.int .u64 (lim n 0), .int .u64 (lim n 1), .int .u64 (lim n 2), .int .u64 (lim n 3)]] (.tuple #[.agg #[.int .u64 (lim r 0), .int .u64 (lim r 1), .int .u64 (lim r 2), .int .u64 (lim r 3)], .bool t]) := by
  intro w
  have Hha := Lib.hid ha
  have Hhl := Lib.hid hl
  clear ha hl
  go_enter Tryd.func61, Tryd.ntmps61
  have LX := Has.new w 24 #[.int .u64 (lim x 0), .int .u64 (lim x 1), .int .u64 (lim x 2), .int .u64 (lim x 3)]
  have k1 := LX.cell 0 _ rfl
  have k2 := LX.cell 1 _ rfl
  have k3 := LX.cell 2 _ rfl
  have k4 := LX.cell 3 _ rfl
  have LX := LX.alloc (.cells #[.int .u64 (lim n 0), .int .u64 (lim n 1), .int .u64 (lim n 2), .int .u64 (lim n 3)] 24)
  have LN := Has.new (w.alloc (.cells #[.int .u64 (lim x 0), .int .u64 (lim x 1), .int .u64 (lim x 2), .int .u64 (lim x 3)] 24)) 24 #[.int .u64 (lim n 0), .int .u64 (lim n 1), .int .u64 (lim n 2), .int .u64 (lim n 3)]
  simp only [World.size_alloc] at LN
  have k5 := LX.cell 0 _ rfl
  have k6 := LX.cell 1 _ rfl
  have k7 := LX.cell 2 _ rfl
  have k8 := LX.cell 3 _ rfl
  have k9 := LN.cell 0 _ rfl
  have k10 := LN.cell 1 _ rfl
  have k11 := LN.cell 2 _ rfl
  have k12 := LN.cell 3 _ rfl
  have LX := LX.alloc (.cells #[.int .u64 0, .int .u64 0, .int .u64 0, .int .u64 0] 24)
  have LN := LN.alloc (.cells #[.int .u64 0, .int .u64 0, .int .u64 0, .int .u64 0] 24)
  have LR := Has.new ((w.alloc (.cells #[.int .u64 (lim x 0), .int .u64 (lim x 1), .int .u64 (lim x 2), .int .u64 (lim x 3)] 24)).alloc (.cells #[.int .u64 (lim n 0), .int .u64 (lim n 1), .int .u64 (lim n 2), .int .u64 (lim n 3)] 24)) 24 #[.int .u64 0, .int .u64 0, .int .u64 0, .int .u64 0]
  simp only [World.size_alloc] at LR
  have k13 := LX.cell 0 _ rfl
  have k14 := LX.cell 1 _ rfl
  have k15 := LX.cell 2 _ rfl
  have k16 := LX.cell 3 _ rfl
  have k17 := LN.cell 0 _ rfl
  have k18 := LN.cell 1 _ rfl
  have k19 := LN.cell 2 _ rfl
  have k20 := LN.cell 3 _ rfl
  have k21 := LR.cell 0 _ rfl
  have k22 := LR.cell 1 _ rfl
  have k23 := LR.cell 2 _ rfl
  have k24 := LR.cell 3 _ rfl
  have Q := (Below.refl w.heap.size w)
  have Q := Q.alloc Q.size (.cells #[.int .u64 (lim x 0), .int .u64 (lim x 1), .int .u64 (lim x 2), .int .u64 (lim x 3)] 24)
  have Q := Q.alloc Q.size (.cells #[.int .u64 (lim n 0), .int .u64 (lim n 1), .int .u64 (lim n 2), .int .u64 (lim n 3)] 24)
  have Q := Q.alloc Q.size (.cells #[.int .u64 0, .int .u64 0, .int .u64 0, .int .u64 0] 24)
  go_wp2_with fail
  clear k1 k2 k3 k4 k5 k6 k7 k8 k9 k10 k11 k12 k13 k14 k15 k16 k17 k18 k19 k20 k21 k22 k23 k24
  obtain ⟨W1, hW1⟩ : ∃ W1, (((w.alloc (.cells #[.int .u64 (lim x 0), .int .u64 (lim x 1), .int .u64 (lim x 2), .int .u64 (lim x 3)] 24)).alloc (.cells #[.int .u64 (lim n 0), .int .u64 (lim n 1), .int .u64 (lim n 2), .int .u64 (lim n 3)] 24)).alloc (.cells #[.int .u64 0, .int .u64 0, .int .u64 0, .int .u64 0] 24)) = W1 := ⟨_, rfl⟩
  rw [hW1] at LX LN LR Q ⊢
  clear hW1
  refine (Hha.out _).mono ?_
  rintro e v25 ⟨rfl, q⟩
  have LX := LX.later q
  have LN := LN.later q
  have LR := LR.later q
  have Q := Q.trans (q.mono Q.size)
  clear q
  have k26 := LX.cell 0 _ rfl
  have k27 := LX.cell 1 _ rfl
  have k28 := LX.cell 2 _ rfl
  have k29 := LX.cell 3 _ rfl
  have k30 := LN.cell 0 _ rfl
  have k31 := LN.cell 1 _ rfl
  have k32 := LN.cell 2 _ rfl
  have k33 := LN.cell 3 _ rfl
  have k34 := LR.cell 0 _ rfl
  have k35 := LR.cell 1 _ rfl
  have k36 := LR.cell 2 _ rfl
  have k37 := LR.cell 3 _ rfl
  have LX := LX.alloc (.cells #[.int .u64 (lim s 0), .int .u64 (lim s 1), .int .u64 (lim s 2), .int .u64 (lim s 3)] 24)
  have LN := LN.alloc (.cells #[.int .u64 (lim s 0), .int .u64 (lim s 1), .int .u64 (lim s 2), .int .u64 (lim s 3)] 24)
  have LR := LR.alloc (.cells #[.int .u64 (lim s 0), .int .u64 (lim s 1), .int .u64 (lim s 2), .int .u64 (lim s 3)] 24)
  have LS := Has.new v25 24 #[.int .u64 (lim s 0), .int .u64 (lim s 1), .int .u64 (lim s 2), .int .u64 (lim s 3)]
  have k38 := LX.cell 0 _ rfl
  have k39 := LX.cell 1 _ rfl
  have k40 := LX.cell 2 _ rfl
  have k41 := LX.cell 3 _ rfl
  have k42 := LN.cell 0 _ rfl
  have k43 := LN.cell 1 _ rfl
  have k44 := LN.cell 2 _ rfl
  have k45 := LN.cell 3 _ rfl
  have k46 := LR.cell 0 _ rfl
  have k47 := LR.cell 1 _ rfl
  have k48 := LR.cell 2 _ rfl
  have k49 := LR.cell 3 _ rfl
  have k50 := LS.cell 0 _ rfl
  have k51 := LS.cell 1 _ rfl
  have k52 := LS.cell 2 _ rfl
  have k53 := LS.cell 3 _ rfl
  have Q := Q.alloc Q.size (.cells #[.int .u64 (lim s 0), .int .u64 (lim s 1), .int .u64 (lim s 2), .int .u64 (lim s 3)] 24)
  go_wp2_with fail
  clear k26 k27 k28 k29 k30 k31 k32 k33 k34 k35 k36 k37 k38 k39 k40 k41 k42 k43 k44 k45 k46 k47 k48 k49 k50 k51 k52 k53
  obtain ⟨W2, hW2⟩ : ∃ W2, (v25.alloc (.cells #[.int .u64 (lim s 0), .int .u64 (lim s 1), .int .u64 (lim s 2), .int .u64 (lim s 3)] 24)) = W2 := ⟨_, rfl⟩
  rw [hW2] at LX LN LR LS Q ⊢
  clear hW2
  generalize v25.heap.size = b2 at *
  refine (Hhl.out _).mono ?_
  rintro e v54 ⟨rfl, q⟩
  have LX := LX.later q
  have LN := LN.later q
  have LR := LR.later q
  have LS := LS.later q
  have Q := Q.trans (q.mono Q.size)
  clear q
  have r0 := LR.cell 0 _ rfl
  have z0 := LR.frozen 0
  have r1 := LR.cell 1 _ rfl
  have z1 := LR.frozen 1
  have r2 := LR.cell 2 _ rfl
  have z2 := LR.frozen 2
  have r3 := LR.cell 3 _ rfl
  have z3 := LR.frozen 3
  have HR := Lib.hid (((((LR.set 0 (.int .u64 (lim r 0))).set 1 (.int .u64 (lim r 1))).set 2 (.int .u64 (lim r 2))).set 3 (.int .u64 (lim r 3))))
  have HQ := Lib.hid (((((Q.setCell (p := ⟨w.heap.size + 1 + 1, 0, none⟩) (show w.heap.size ≤ _ by simp; first | done | omega) (.int .u64 (lim r 0))).setCell (p := ⟨w.heap.size + 1 + 1, 1, none⟩) (show w.heap.size ≤ _ by simp; first | done | omega) (.int .u64 (lim r 1))).setCell (p := ⟨w.heap.size + 1 + 1, 2, none⟩) (show w.heap.size ≤ _ by simp; first | done | omega) (.int .u64 (lim r 2))).setCell (p := ⟨w.heap.size + 1 + 1, 3, none⟩) (show w.heap.size ≤ _ by simp; first | done | omega) (.int .u64 (lim r 3))))
  have k55 := LX.cell 0 _ rfl
  have k56 := LX.cell 1 _ rfl
  have k57 := LX.cell 2 _ rfl
  have k58 := LX.cell 3 _ rfl
  have k59 := LN.cell 0 _ rfl
  have k60 := LN.cell 1 _ rfl
  have k61 := LN.cell 2 _ rfl
  have k62 := LN.cell 3 _ rfl
  have k63 := LS.cell 0 _ rfl
  have k64 := LS.cell 1 _ rfl
  have k65 := LS.cell 2 _ rfl
  have k66 := LS.cell 3 _ rfl
  clear Q LX LN LR LS
  go_wp2
  refine bodyPost_ret (results_wordB (m := lim r) rfl rfl HR.out) rfl ⟨rfl, HQ.out⟩

set_option maxRecDepth 100000 in
set_option maxHeartbeats 4000000 in
theorem double_one (x n s s2 r : Nat) (t : Bool) (ha : Ret Tryd.prog 66 #[.agg #[.int .u64 (lim x 0), .int .u64 (lim x 1), .int .u64 (lim x 2), .int .u64 (lim x 3)], .agg #[.int .u64 (lim x 0), .int .u64 (lim x 1), .int .u64 (lim x 2), .int .u64 (lim x 3)]] (.agg #[.int .u64 (lim s 0), .int .u64 (lim s 1), .int .u64 (lim s 2), .int .u64 (lim s 3)])) (ho : Ret Tryd.prog 18 #[.int .i64 1] (.agg #[.int .u64 1, .int .u64 0, .int .u64 0, .int .u64 0])) (ha2 : Ret Tryd.prog 66 #[.agg #[.int .u64 (lim s 0), .int .u64 (lim s 1), .int .u64 (lim s 2), .int .u64 (lim s 3)], .agg #[.int .u64 1, .int .u64 0, .int .u64 0, .int .u64 0]] (.agg #[.int .u64 (lim s2 0), .int .u64 (lim s2 1), .int .u64 (lim s2 2), .int .u64 (lim s2 3)])) (hl : Ret Tryd.prog 67 #[.agg #[.int .u64 (lim s2 0), .int .u64 (lim s2 1), .int .u64 (lim s2 2), .int .u64 (lim s2 3)], .bool (decide (9223372036854775808 ≤ lim x 3)), .agg #[.int .u64 (lim n 0), .int .u64 (lim n 1), .int .u64 (lim n 2), .int .u64 (lim n 3)]] (.tuple #[.agg #[.int .u64 (lim r 0), .int .u64 (lim r 1), .int .u64 (lim r 2), .int .u64 (lim r 3)], .bool t])) :
    Ret Tryd.prog 61 #[.agg #[.int .u64 (lim x 0), .int .u64 (lim x 1), .int .u64 (lim x 2), .int .u64 (lim x 3)], .bool true, .agg #[.int .u64 (lim n 0), .int .u64 (lim n 1), .int .u64 (lim n 2), .int .u64 (lim n 3)]] (.tuple #[.agg #[.int .u64 (lim r 0), .int .u64 (lim r 1), .int .u64 (lim r 2), .int .u64 (lim r 3)], .bool t]) := by
  intro w
  have Hha := Lib.hid ha
  have Hho := Lib.hid ho
  have Hha2 := Lib.hid ha2
  have Hhl := Lib.hid hl
  clear ha ho ha2 hl
  go_enter Tryd.func61, Tryd.ntmps61
  have LX := Has.new w 24 #[.int .u64 (lim x 0), .int .u64 (lim x 1), .int .u64 (lim x 2), .int .u64 (lim x 3)]
  have k1 := LX.cell 0 _ rfl
  have k2 := LX.cell 1 _ rfl
  have k3 := LX.cell 2 _ rfl
  have k4 := LX.cell 3 _ rfl
  have LX := LX.alloc (.cells #[.int .u64 (lim n 0), .int .u64 (lim n 1), .int .u64 (lim n 2), .int .u64 (lim n 3)] 24)
  have LN := Has.new (w.alloc (.cells #[.int .u64 (lim x 0), .int .u64 (lim x 1), .int .u64 (lim x 2), .int .u64 (lim x 3)] 24)) 24 #[.int .u64 (lim n 0), .int .u64 (lim n 1), .int .u64 (lim n 2), .int .u64 (lim n 3)]
  simp only [World.size_alloc] at LN
  have k5 := LX.cell 0 _ rfl
  have k6 := LX.cell 1 _ rfl
  have k7 := LX.cell 2 _ rfl
  have k8 := LX.cell 3 _ rfl
  have k9 := LN.cell 0 _ rfl
  have k10 := LN.cell 1 _ rfl
  have k11 := LN.cell 2 _ rfl
  have k12 := LN.cell 3 _ rfl
  have LX := LX.alloc (.cells #[.int .u64 0, .int .u64 0, .int .u64 0, .int .u64 0] 24)
  have LN := LN.alloc (.cells #[.int .u64 0, .int .u64 0, .int .u64 0, .int .u64 0] 24)
  have LR := Has.new ((w.alloc (.cells #[.int .u64 (lim x 0), .int .u64 (lim x 1), .int .u64 (lim x 2), .int .u64 (lim x 3)] 24)).alloc (.cells #[.int .u64 (lim n 0), .int .u64 (lim n 1), .int .u64 (lim n 2), .int .u64 (lim n 3)] 24)) 24 #[.int .u64 0, .int .u64 0, .int .u64 0, .int .u64 0]
  simp only [World.size_alloc] at LR
  have k13 := LX.cell 0 _ rfl
  have k14 := LX.cell 1 _ rfl
  have k15 := LX.cell 2 _ rfl
  have k16 := LX.cell 3 _ rfl
  have k17 := LN.cell 0 _ rfl
  have k18 := LN.cell 1 _ rfl
  have k19 := LN.cell 2 _ rfl
  have k20 := LN.cell 3 _ rfl
  have k21 := LR.cell 0 _ rfl
  have k22 := LR.cell 1 _ rfl
  have k23 := LR.cell 2 _ rfl
  have k24 := LR.cell 3 _ rfl
  have Q := (Below.refl w.heap.size w)
  have Q := Q.alloc Q.size (.cells #[.int .u64 (lim x 0), .int .u64 (lim x 1), .int .u64 (lim x 2), .int .u64 (lim x 3)] 24)
  have Q := Q.alloc Q.size (.cells #[.int .u64 (lim n 0), .int .u64 (lim n 1), .int .u64 (lim n 2), .int .u64 (lim n 3)] 24)
  have Q := Q.alloc Q.size (.cells #[.int .u64 0, .int .u64 0, .int .u64 0, .int .u64 0] 24)
  go_wp2_with fail
  clear k1 k2 k3 k4 k5 k6 k7 k8 k9 k10 k11 k12 k13 k14 k15 k16 k17 k18 k19 k20 k21 k22 k23 k24
  obtain ⟨W1, hW1⟩ : ∃ W1, (((w.alloc (.cells #[.int .u64 (lim x 0), .int .u64 (lim x 1), .int .u64 (lim x 2), .int .u64 (lim x 3)] 24)).alloc (.cells #[.int .u64 (lim n 0), .int .u64 (lim n 1), .int .u64 (lim n 2), .int .u64 (lim n 3)] 24)).alloc (.cells #[.int .u64 0, .int .u64 0, .int .u64 0, .int .u64 0] 24)) = W1 := ⟨_, rfl⟩
  rw [hW1] at LX LN LR Q ⊢
  clear hW1
  refine (Hha.out _).mono ?_
  rintro e v25 ⟨rfl, q⟩
  have LX := LX.later q
  have LN := LN.later q
  have LR := LR.later q
  have Q := Q.trans (q.mono Q.size)
  clear q
  have aX := LX.lt
  have aN := LN.lt
  have aR := LR.lt
  have k26 := LX.cell 0 _ rfl
  have k27 := LX.cell 1 _ rfl
  have k28 := LX.cell 2 _ rfl
  have k29 := LX.cell 3 _ rfl
  have k30 := LN.cell 0 _ rfl
  have k31 := LN.cell 1 _ rfl
  have k32 := LN.cell 2 _ rfl
  have k33 := LN.cell 3 _ rfl
  have k34 := LR.cell 0 _ rfl
  have k35 := LR.cell 1 _ rfl
  have k36 := LR.cell 2 _ rfl
  have k37 := LR.cell 3 _ rfl
  have LX := LX.alloc (.cells #[.int .u64 (lim s 0), .int .u64 (lim s 1), .int .u64 (lim s 2), .int .u64 (lim s 3)] 24)
  have LN := LN.alloc (.cells #[.int .u64 (lim s 0), .int .u64 (lim s 1), .int .u64 (lim s 2), .int .u64 (lim s 3)] 24)
  have LR := LR.alloc (.cells #[.int .u64 (lim s 0), .int .u64 (lim s 1), .int .u64 (lim s 2), .int .u64 (lim s 3)] 24)
  have LS := Has.new v25 24 #[.int .u64 (lim s 0), .int .u64 (lim s 1), .int .u64 (lim s 2), .int .u64 (lim s 3)]
  have k38 := LX.cell 0 _ rfl
  have k39 := LX.cell 1 _ rfl
  have k40 := LX.cell 2 _ rfl
  have k41 := LX.cell 3 _ rfl
  have k42 := LN.cell 0 _ rfl
  have k43 := LN.cell 1 _ rfl
  have k44 := LN.cell 2 _ rfl
  have k45 := LN.cell 3 _ rfl
  have k46 := LR.cell 0 _ rfl
  have k47 := LR.cell 1 _ rfl
  have k48 := LR.cell 2 _ rfl
  have k49 := LR.cell 3 _ rfl
  have k50 := LS.cell 0 _ rfl
  have k51 := LS.cell 1 _ rfl
  have k52 := LS.cell 2 _ rfl
  have k53 := LS.cell 3 _ rfl
  have Q := Q.alloc Q.size (.cells #[.int .u64 (lim s 0), .int .u64 (lim s 1), .int .u64 (lim s 2), .int .u64 (lim s 3)] 24)
  go_wp2_with fail
  clear k26 k27 k28 k29 k30 k31 k32 k33 k34 k35 k36 k37 k38 k39 k40 k41 k42 k43 k44 k45 k46 k47 k48 k49 k50 k51 k52 k53
  obtain ⟨W2, hW2⟩ : ∃ W2, (v25.alloc (.cells #[.int .u64 (lim s 0), .int .u64 (lim s 1), .int .u64 (lim s 2), .int .u64 (lim s 3)] 24)) = W2 := ⟨_, rfl⟩
  rw [hW2] at LX LN LR LS Q ⊢
  clear hW2
  generalize v25.heap.size = b2 at *
  have k54 : ∀ y : Ext W2, y.w.cell? ⟨w.heap.size, 0, none⟩ = some (.int .u64 (lim x 0)) := fun y => (LX.later y.below).cell 0 _ rfl
  have k55 : ∀ y : Ext W2, y.w.cell? ⟨w.heap.size, 1, none⟩ = some (.int .u64 (lim x 1)) := fun y => (LX.later y.below).cell 1 _ rfl
  have k56 : ∀ y : Ext W2, y.w.cell? ⟨w.heap.size, 2, none⟩ = some (.int .u64 (lim x 2)) := fun y => (LX.later y.below).cell 2 _ rfl
  have k57 : ∀ y : Ext W2, y.w.cell? ⟨w.heap.size, 3, none⟩ = some (.int .u64 (lim x 3)) := fun y => (LX.later y.below).cell 3 _ rfl
  have k58 : ∀ y : Ext W2, y.w.cell? ⟨w.heap.size + 1, 0, none⟩ = some (.int .u64 (lim n 0)) := fun y => (LN.later y.below).cell 0 _ rfl
  have k59 : ∀ y : Ext W2, y.w.cell? ⟨w.heap.size + 1, 1, none⟩ = some (.int .u64 (lim n 1)) := fun y => (LN.later y.below).cell 1 _ rfl
  have k60 : ∀ y : Ext W2, y.w.cell? ⟨w.heap.size + 1, 2, none⟩ = some (.int .u64 (lim n 2)) := fun y => (LN.later y.below).cell 2 _ rfl
  have k61 : ∀ y : Ext W2, y.w.cell? ⟨w.heap.size + 1, 3, none⟩ = some (.int .u64 (lim n 3)) := fun y => (LN.later y.below).cell 3 _ rfl
  have k62 : ∀ y : Ext W2, y.w.cell? ⟨w.heap.size + 1 + 1, 0, none⟩ = some (.int .u64 0) := fun y => (LR.later y.below).cell 0 _ rfl
  have k63 : ∀ y : Ext W2, y.w.cell? ⟨w.heap.size + 1 + 1, 1, none⟩ = some (.int .u64 0) := fun y => (LR.later y.below).cell 1 _ rfl
  have k64 : ∀ y : Ext W2, y.w.cell? ⟨w.heap.size + 1 + 1, 2, none⟩ = some (.int .u64 0) := fun y => (LR.later y.below).cell 2 _ rfl
  have k65 : ∀ y : Ext W2, y.w.cell? ⟨w.heap.size + 1 + 1, 3, none⟩ = some (.int .u64 0) := fun y => (LR.later y.below).cell 3 _ rfl
  have k66 : ∀ y : Ext W2, y.w.cell? ⟨b2, 0, none⟩ = some (.int .u64 (lim s 0)) := fun y => (LS.later y.below).cell 0 _ rfl
  have k67 : ∀ y : Ext W2, y.w.cell? ⟨b2, 1, none⟩ = some (.int .u64 (lim s 1)) := fun y => (LS.later y.below).cell 1 _ rfl
  have k68 : ∀ y : Ext W2, y.w.cell? ⟨b2, 2, none⟩ = some (.int .u64 (lim s 2)) := fun y => (LS.later y.below).cell 2 _ rfl
  have k69 : ∀ y : Ext W2, y.w.cell? ⟨b2, 3, none⟩ = some (.int .u64 (lim s 3)) := fun y => (LS.later y.below).cell 3 _ rfl
  have hmx : Tryd.prog.follows .mixedOrders = true := by kernel_rfl
  refine wp_region_mix (C := Grows W2) [some true, some true, some true, none] hmx (by kernel_rfl) (by kernel_rfl) (grows_refl W2) ?_
  simp only [headOf, tailOf]
  repeat (go_big_quiet_step (first | (with_reducible exact Ret.at Hho.out _) | (with_reducible exact Ret.at Hha2.out _)))
  refine wpQuiet_nil ?_
  rintro _ ⟨x70, rfl⟩
  clear hmx k54 k55 k56 k57 k58 k59 k60 k61 k62 k63 k64 k65 k66 k67 k68 k69
  have LX := LX.later x70.below
  have LN := LN.later x70.below
  have LR := LR.later x70.below
  have LS := LS.later x70.below
  have Q := Q.trans (x70.below.mono Q.size)
  have k71 := LS.cell 0 _ rfl
  have f71 := LS.frozen 0
  have k72 := LS.cell 1 _ rfl
  have f72 := LS.frozen 1
  have k73 := LS.cell 2 _ rfl
  have f73 := LS.frozen 2
  have k74 := LS.cell 3 _ rfl
  have f74 := LS.frozen 3
  have LX := ((((LX.other (p := ⟨b2, 0, none⟩) (show w.heap.size ≠ b2 by omega) (.int .u64 (lim s2 0))).other (p := ⟨b2, 1, none⟩) (show w.heap.size ≠ b2 by omega) (.int .u64 (lim s2 1))).other (p := ⟨b2, 2, none⟩) (show w.heap.size ≠ b2 by omega) (.int .u64 (lim s2 2))).other (p := ⟨b2, 3, none⟩) (show w.heap.size ≠ b2 by omega) (.int .u64 (lim s2 3)))
  have LN := ((((LN.other (p := ⟨b2, 0, none⟩) (show w.heap.size + 1 ≠ b2 by omega) (.int .u64 (lim s2 0))).other (p := ⟨b2, 1, none⟩) (show w.heap.size + 1 ≠ b2 by omega) (.int .u64 (lim s2 1))).other (p := ⟨b2, 2, none⟩) (show w.heap.size + 1 ≠ b2 by omega) (.int .u64 (lim s2 2))).other (p := ⟨b2, 3, none⟩) (show w.heap.size + 1 ≠ b2 by omega) (.int .u64 (lim s2 3)))
  have LR := ((((LR.other (p := ⟨b2, 0, none⟩) (show w.heap.size + 1 + 1 ≠ b2 by omega) (.int .u64 (lim s2 0))).other (p := ⟨b2, 1, none⟩) (show w.heap.size + 1 + 1 ≠ b2 by omega) (.int .u64 (lim s2 1))).other (p := ⟨b2, 2, none⟩) (show w.heap.size + 1 + 1 ≠ b2 by omega) (.int .u64 (lim s2 2))).other (p := ⟨b2, 3, none⟩) (show w.heap.size + 1 + 1 ≠ b2 by omega) (.int .u64 (lim s2 3)))
  have LS := ((((LS.set 0 (.int .u64 (lim s2 0))).set 1 (.int .u64 (lim s2 1))).set 2 (.int .u64 (lim s2 2))).set 3 (.int .u64 (lim s2 3)))
  replace LS : Has ((((x70.w.setCell ⟨b2, 0, none⟩ (.int .u64 (lim s2 0))).setCell ⟨b2, 1, none⟩ (.int .u64 (lim s2 1))).setCell ⟨b2, 2, none⟩ (.int .u64 (lim s2 2))).setCell ⟨b2, 3, none⟩ (.int .u64 (lim s2 3))) b2 24 #[.int .u64 (lim s2 0), .int .u64 (lim s2 1), .int .u64 (lim s2 2), .int .u64 (lim s2 3)] := LS
  have Q := ((((Q.setCell (p := ⟨b2, 0, none⟩) (show w.heap.size ≤ _ by simp; first | done | omega) (.int .u64 (lim s2 0))).setCell (p := ⟨b2, 1, none⟩) (show w.heap.size ≤ _ by simp; first | done | omega) (.int .u64 (lim s2 1))).setCell (p := ⟨b2, 2, none⟩) (show w.heap.size ≤ _ by simp; first | done | omega) (.int .u64 (lim s2 2))).setCell (p := ⟨b2, 3, none⟩) (show w.heap.size ≤ _ by simp; first | done | omega) (.int .u64 (lim s2 3)))
  go_wp2
  rw [calmPost_normal]
  clear k71 f71 k72 f72 k73 f73 k74 f74
  obtain ⟨W3, hW3⟩ : ∃ W3, ((((x70.w.setCell ⟨b2, 0, none⟩ (.int .u64 (lim s2 0))).setCell ⟨b2, 1, none⟩ (.int .u64 (lim s2 1))).setCell ⟨b2, 2, none⟩ (.int .u64 (lim s2 2))).setCell ⟨b2, 3, none⟩ (.int .u64 (lim s2 3))) = W3 := ⟨_, rfl⟩
  rw [hW3] at Q LX LN LR LS ⊢
  clear hW3
  have k75 := LX.cell 0 _ rfl
  have k76 := LX.cell 1 _ rfl
  have k77 := LX.cell 2 _ rfl
  have k78 := LX.cell 3 _ rfl
  have k79 := LN.cell 0 _ rfl
  have k80 := LN.cell 1 _ rfl
  have k81 := LN.cell 2 _ rfl
  have k82 := LN.cell 3 _ rfl
  have k83 := LR.cell 0 _ rfl
  have k84 := LR.cell 1 _ rfl
  have k85 := LR.cell 2 _ rfl
  have k86 := LR.cell 3 _ rfl
  have k87 := LS.cell 0 _ rfl
  have k88 := LS.cell 1 _ rfl
  have k89 := LS.cell 2 _ rfl
  have k90 := LS.cell 3 _ rfl
  go_wp2_with fail
  clear k75 k76 k77 k78 k79 k80 k81 k82 k83 k84 k85 k86 k87 k88 k89 k90
  refine (Hhl.out _).mono ?_
  rintro e v91 ⟨rfl, q⟩
  have LX := LX.later q
  have LN := LN.later q
  have LR := LR.later q
  have LS := LS.later q
  have Q := Q.trans (q.mono Q.size)
  clear q
  have r0 := LR.cell 0 _ rfl
  have z0 := LR.frozen 0
  have r1 := LR.cell 1 _ rfl
  have z1 := LR.frozen 1
  have r2 := LR.cell 2 _ rfl
  have z2 := LR.frozen 2
  have r3 := LR.cell 3 _ rfl
  have z3 := LR.frozen 3
  have HR := Lib.hid (((((LR.set 0 (.int .u64 (lim r 0))).set 1 (.int .u64 (lim r 1))).set 2 (.int .u64 (lim r 2))).set 3 (.int .u64 (lim r 3))))
  have HQ := Lib.hid (((((Q.setCell (p := ⟨w.heap.size + 1 + 1, 0, none⟩) (show w.heap.size ≤ _ by simp; first | done | omega) (.int .u64 (lim r 0))).setCell (p := ⟨w.heap.size + 1 + 1, 1, none⟩) (show w.heap.size ≤ _ by simp; first | done | omega) (.int .u64 (lim r 1))).setCell (p := ⟨w.heap.size + 1 + 1, 2, none⟩) (show w.heap.size ≤ _ by simp; first | done | omega) (.int .u64 (lim r 2))).setCell (p := ⟨w.heap.size + 1 + 1, 3, none⟩) (show w.heap.size ≤ _ by simp; first | done | omega) (.int .u64 (lim r 3))))
  have k92 := LX.cell 0 _ rfl
  have k93 := LX.cell 1 _ rfl
  have k94 := LX.cell 2 _ rfl
  have k95 := LX.cell 3 _ rfl
  have k96 := LN.cell 0 _ rfl
  have k97 := LN.cell 1 _ rfl
  have k98 := LN.cell 2 _ rfl
  have k99 := LN.cell 3 _ rfl
  have k100 := LS.cell 0 _ rfl
  have k101 := LS.cell 1 _ rfl
  have k102 := LS.cell 2 _ rfl
  have k103 := LS.cell 3 _ rfl
  clear Q LX LN LR LS
  go_wp2
  refine bodyPost_ret (results_wordB (m := lim r) rfl rfl HR.out) rfl ⟨rfl, HQ.out⟩


theorem one_ret : Ret Tryd.prog 18 #[.int .i64 1] (.agg #[.int .u64 1, .int .u64 0, .int .u64 0, .int .u64 0]) := (refOf_ret 1 (by unfold I64; omega)).of_eq rfl (wv_of ⟨by decide, by decide, by decide, by decide⟩)
theorem wv_one : wv 1 = .agg #[.int .u64 1, .int .u64 0, .int .u64 0, .int .u64 0] := wv_of ⟨by decide, by decide, by decide, by decide⟩
theorem topP (a : Nat) (ha : W256 a) : decide (9223372036854775808 ≤ lim a 3) = decide (57896044618658097711785492504343953926634992332820282019728792003956564819968 ≤ a) := by
  unfold W256 at ha
  rw [decide_eq_decide]
  show (9223372036854775808 : Int) ≤ ((a / 6277101735386680763835789423207666416102355444464034512896 % 18446744073709551616 : Nat) : Int) ↔ _
  omega
/-- Twice a rest, and one more, if that is so: less n, if that goes. -/
theorem refDouble_ret (x n t : Nat) (hx : W256 x) (hn : W256 n) (ht : t < 2) (hlt : x < n) : Ret Tryd.prog 61 #[wv x, .bool (decide (t = 1)), wv n] (.tuple #[wv (if n ≤ 2 * x + t then 2 * x + t - n else 2 * x + t), .bool (decide (n ≤ 2 * x + t))]) := by
  have hs : wmod (x + x) < 115792089237316195423570985008687907853269984665640564039457584007913129639936 := Nat.mod_lt _ (by decide)
  have tp := topP x hx
  have key : ∀ s2, W256 s2 → s2 = wmod (2 * x + t) → ((decide (57896044618658097711785492504343953926634992332820282019728792003956564819968 ≤ x) = true ∨ n ≤ s2) ↔ n ≤ 2 * x + t) ∧ (n ≤ 2 * x + t → wsub s2 n = 2 * x + t - n) ∧ (¬ n ≤ 2 * x + t → s2 = 2 * x + t) := by
    intro s2 h2 he
    unfold W256 at *
    rw [decide_eq_true_eq]
    unfold wsub wmod at *
    refine ⟨?_, fun _ => ?_, fun _ => ?_⟩
    · omega
    · omega
    · omega
  have fin : ∀ s2, W256 s2 → s2 = wmod (2 * x + t) → Ret Tryd.prog 67 #[wv s2, .bool (decide (9223372036854775808 ≤ lim x 3)), wv n] (.tuple #[wv (if n ≤ 2 * x + t then 2 * x + t - n else 2 * x + t), .bool (decide (n ≤ 2 * x + t))]) := by
    intro s2 h2 he
    obtain ⟨k1, k2, k3⟩ := key s2 h2 he
    rw [tp]
    refine (refLess_ret s2 n _ h2 hn).of_eq rfl ?_
    by_cases h : n ≤ 2 * x + t
    · rw [if_pos (k1.2 h), if_pos h, k2 h, decide_eq_true (k1.2 h), decide_eq_true h]
    · rw [if_neg (fun h' => h (k1.1 h')), if_neg h, ← k3 h, decide_eq_false (fun h' => h (k1.1 h')), decide_eq_false (by rw [k3 h]; exact h)]
  rcases (show t = 0 ∨ t = 1 by omega) with rfl | rfl
  · exact double_plain x n (wmod (x + x)) 0 _ _ (refAdd_ret x x hx hx) (fin _ hs (by rw [Nat.two_mul, Nat.add_zero]))
  · have h2 : wmod (wmod (x + x) + 1) < 115792089237316195423570985008687907853269984665640564039457584007913129639936 := Nat.mod_lt _ (by decide)
    exact double_one x n (wmod (x + x)) (wmod (wmod (x + x) + 1)) _ _ (refAdd_ret x x hx hx) one_ret ((refAdd_ret (wmod (x + x)) 1 hs (by unfold W256; omega)).of_eq (by rw [wv_one]; rfl) rfl) (fin _ h2 (by unfold wmod; omega))
theorem dv_step (a b k : Nat) (hb : b ≠ 0) : (a / 2 ^ k) % b = (if b ≤ 2 * (a / 2 ^ (k + 1) % b) + bt a k then 2 * (a / 2 ^ (k + 1) % b) + bt a k - b else 2 * (a / 2 ^ (k + 1) % b) + bt a k) ∧ bt (a / b) k = if b ≤ 2 * (a / 2 ^ (k + 1) % b) + bt a k then 1 else 0 := by
  have e1 : a / 2 ^ (k + 1) = a / 2 ^ k / 2 := by rw [Nat.pow_succ, Nat.div_div_eq_div_mul]
  have e2 : bt (a / b) k = a / 2 ^ k / b % 2 := by unfold bt; rw [Nat.div_div_eq_div_mul, Nat.div_div_eq_div_mul, Nat.mul_comm]
  have e3 : bt a k = a / 2 ^ k % 2 := rfl
  rw [e1, e2, e3]
  generalize a / 2 ^ k = A
  have hq := Nat.div_add_mod (A / 2) b
  have hr := Nat.mod_lt (A / 2) (Nat.pos_of_ne_zero hb)
  have hA : A = b * (2 * (A / 2 / b)) + (2 * (A / 2 % b) + A % 2) := by
    have e : b * (2 * (A / 2 / b)) = 2 * (b * (A / 2 / b)) := Nat.mul_left_comm _ _ _
    omega
  have ht : A % 2 < 2 := Nat.mod_lt _ (by decide)
  have hp := Nat.pos_of_ne_zero hb
  generalize A / 2 / b = q at *
  generalize A / 2 % b = r at *
  generalize A % 2 = t at *
  rw [hA, Nat.mul_add_mod, Nat.mul_add_div hp]
  by_cases h : b ≤ 2 * r + t
  · rw [if_pos h, if_pos h]
    have e1 : (2 * r + t) / b = 1 := by
      rw [Nat.div_eq_sub_div hp h, Nat.div_eq_of_lt (by omega)]
    have e2 : (2 * r + t) % b = 2 * r + t - b := by
      rw [Nat.mod_eq_sub_mod h, Nat.mod_eq_of_lt (by omega)]
    rw [e1, e2]
    omega
  · rw [if_neg h, if_neg h, Nat.div_eq_of_lt (by omega), Nat.mod_eq_of_lt (by omega)]
    omega

end Go.Proofs.YtnlcllhjhbaigaaDoor
