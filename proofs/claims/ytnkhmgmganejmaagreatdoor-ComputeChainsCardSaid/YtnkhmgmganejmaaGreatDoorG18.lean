/- Part. -/
import Derived.Test.YtnkhmgmganejmaaGreatDoorG17
set_option maxRecDepth 100000
set_option maxHeartbeats 16000000
namespace Go.Proofs.YtnkhmgmganejmaaGreatDoor
section
open Go Go.RowKit
attribute [local go_sem] Oper.semAt_some Grows wide_fn eq4
theorem truth_t (z : Nat → Int) (h : Ret Tryz.prog 134 #[.int .i64 1] (.agg #[.int .u64 (z 0), .int .u64 (z 1), .int .u64 (z 2), .int .u64 (z 3)])) :
  Ret Tryz.prog 105 #[.bool true] (.agg #[.int .u64 (z 0), .int .u64 (z 1), .int .u64 (z 2), .int .u64 (z 3)]) := by
 intro w
 have Hh := hid h
 clear h
 go_enter Tryz.func105, Tryz.ntmps105
 have LR := Has.new w 24 #[.int .u64 0, .int .u64 0, .int .u64 0, .int .u64 0]
 have k1 := LR.cell 0 _ rfl
 have k2 := LR.cell 1 _ rfl
 have k3 := LR.cell 2 _ rfl
 have k4 := LR.cell 3 _ rfl
 have Q := (Below.refl w.heap.size w)
 have Q := Q.alloc Q.size (.cells #[.int .u64 0, .int .u64 0, .int .u64 0, .int .u64 0] 24)
 go_wp2_with fail
 clear k1 k2 k3 k4
 obtain ⟨W1, hW1⟩ : ∃ W1, (w.alloc (.cells #[.int .u64 0, .int .u64 0, .int .u64 0, .int .u64 0] 24)) = W1 := ⟨_, rfl⟩
 rw [hW1] at LR Q ⊢
 clear hW1
 refine (Hh.out _).mono ?_
 rintro e v5 ⟨rfl, q⟩
 have LR := LR.later q
 have Q := Q.trans (q.mono Q.size)
 clear q
 have r0 := LR.cell 0 _ rfl
 have z0 := LR.frozen 0
 have r1 := LR.cell 1 _ rfl
 have z1 := LR.frozen 1
 have r2 := LR.cell 2 _ rfl
 have z2 := LR.frozen 2
 have r3 := LR.cell 3 _ rfl
 have z3 := LR.frozen 3
 have HR := hid (((((LR.set 0 (.int .u64 (z 0))).set 1 (.int .u64 (z 1))).set 2 (.int .u64 (z 2))).set 3 (.int .u64 (z 3))))
 have HQ := hid (((((Q.setCell (p := ⟨w.heap.size, 0, none⟩) (show w.heap.size ≤ _ by simp; first | done | omega) (.int .u64 (z 0))).setCell (p := ⟨w.heap.size, 1, none⟩) (show w.heap.size ≤ _ by simp; first | done | omega) (.int .u64 (z 1))).setCell (p := ⟨w.heap.size, 2, none⟩) (show w.heap.size ≤ _ by simp; first | done | omega) (.int .u64 (z 2))).setCell (p := ⟨w.heap.size, 3, none⟩) (show w.heap.size ≤ _ by simp; first | done | omega) (.int .u64 (z 3))))
 clear Q LR
 go_wp2
 refine bodyPost_ret (results_word (m := z) rfl rfl HR.out) rfl ⟨rfl, HQ.out⟩
theorem truth_f (z : Nat → Int) (h : Ret Tryz.prog 134 #[.int .i64 0] (.agg #[.int .u64 (z 0), .int .u64 (z 1), .int .u64 (z 2), .int .u64 (z 3)])) :
  Ret Tryz.prog 105 #[.bool false] (.agg #[.int .u64 (z 0), .int .u64 (z 1), .int .u64 (z 2), .int .u64 (z 3)]) := by
 intro w
 have Hh := hid h
 clear h
 go_enter Tryz.func105, Tryz.ntmps105
 have LR := Has.new w 24 #[.int .u64 0, .int .u64 0, .int .u64 0, .int .u64 0]
 have k1 := LR.cell 0 _ rfl
 have k2 := LR.cell 1 _ rfl
 have k3 := LR.cell 2 _ rfl
 have k4 := LR.cell 3 _ rfl
 have Q := (Below.refl w.heap.size w)
 have Q := Q.alloc Q.size (.cells #[.int .u64 0, .int .u64 0, .int .u64 0, .int .u64 0] 24)
 go_wp2_with fail
 clear k1 k2 k3 k4
 obtain ⟨W1, hW1⟩ : ∃ W1, (w.alloc (.cells #[.int .u64 0, .int .u64 0, .int .u64 0, .int .u64 0] 24)) = W1 := ⟨_, rfl⟩
 rw [hW1] at LR Q ⊢
 clear hW1
 refine (Hh.out _).mono ?_
 rintro e v5 ⟨rfl, q⟩
 have LR := LR.later q
 have Q := Q.trans (q.mono Q.size)
 clear q
 have r0 := LR.cell 0 _ rfl
 have z0 := LR.frozen 0
 have r1 := LR.cell 1 _ rfl
 have z1 := LR.frozen 1
 have r2 := LR.cell 2 _ rfl
 have z2 := LR.frozen 2
 have r3 := LR.cell 3 _ rfl
 have z3 := LR.frozen 3
 have HR := hid (((((LR.set 0 (.int .u64 (z 0))).set 1 (.int .u64 (z 1))).set 2 (.int .u64 (z 2))).set 3 (.int .u64 (z 3))))
 have HQ := hid (((((Q.setCell (p := ⟨w.heap.size, 0, none⟩) (show w.heap.size ≤ _ by simp; first | done | omega) (.int .u64 (z 0))).setCell (p := ⟨w.heap.size, 1, none⟩) (show w.heap.size ≤ _ by simp; first | done | omega) (.int .u64 (z 1))).setCell (p := ⟨w.heap.size, 2, none⟩) (show w.heap.size ≤ _ by simp; first | done | omega) (.int .u64 (z 2))).setCell (p := ⟨w.heap.size, 3, none⟩) (show w.heap.size ≤ _ by simp; first | done | omega) (.int .u64 (z 3))))
 clear Q LR
 go_wp2
 refine bodyPost_ret (results_word (m := z) rfl rfl HR.out) rfl ⟨rfl, HQ.out⟩
theorem truth_ret (b : Bool) : Ret Tryz.prog 105 #[.bool b] (wv (truN b)) := by
 cases b
 ·exact truth_f (lim 0) (of_ret 0 (by unfold I64; omega))
 ·exact truth_t (lim 1) (of_ret 1 (by unfold I64; omega))
theorem less_w (za zb : Nat → Int) (c : Int) (h : Ret Tryz.prog 148 #[.agg #[.int .u64 (za 0), .int .u64 (za 1), .int .u64 (za 2), .int .u64 (za 3)], .agg #[.int .u64 (zb 0), .int .u64 (zb 1), .int .u64 (zb 2), .int .u64 (zb 3)]] (.int .i64 c)) :
  Ret Tryz.prog 119 #[.agg #[.int .u64 (za 0), .int .u64 (za 1), .int .u64 (za 2), .int .u64 (za 3)], .agg #[.int .u64 (zb 0), .int .u64 (zb 1), .int .u64 (zb 2), .int .u64 (zb 3)]] (.bool (decide (c < 0))) := by
 intro w
 have Hh := hid h
 clear h
 go_enter Tryz.func119, Tryz.ntmps119
 have LA := Has.new w 24 #[.int .u64 (za 0), .int .u64 (za 1), .int .u64 (za 2), .int .u64 (za 3)]
 have k1 := LA.cell 0 _ rfl
 have k2 := LA.cell 1 _ rfl
 have k3 := LA.cell 2 _ rfl
 have k4 := LA.cell 3 _ rfl
 have LA := LA.alloc (.cells #[.int .u64 (zb 0), .int .u64 (zb 1), .int .u64 (zb 2), .int .u64 (zb 3)] 24)
 have LB := Has.new (w.alloc (.cells #[.int .u64 (za 0), .int .u64 (za 1), .int .u64 (za 2), .int .u64 (za 3)] 24)) 24 #[.int .u64 (zb 0), .int .u64 (zb 1), .int .u64 (zb 2), .int .u64 (zb 3)]
 simp only [World.size_alloc] at LB
 have k5 := LA.cell 0 _ rfl
 have k6 := LA.cell 1 _ rfl
 have k7 := LA.cell 2 _ rfl
 have k8 := LA.cell 3 _ rfl
 have k9 := LB.cell 0 _ rfl
 have k10 := LB.cell 1 _ rfl
 have k11 := LB.cell 2 _ rfl
 have k12 := LB.cell 3 _ rfl
 have Q := (Below.refl w.heap.size w)
 have Q := Q.alloc Q.size (.cells #[.int .u64 (za 0), .int .u64 (za 1), .int .u64 (za 2), .int .u64 (za 3)] 24)
 have Q := Q.alloc Q.size (.cells #[.int .u64 (zb 0), .int .u64 (zb 1), .int .u64 (zb 2), .int .u64 (zb 3)] 24)
 go_wp2_with fail
 clear k1 k2 k3 k4 k5 k6 k7 k8 k9 k10 k11 k12
 obtain ⟨W1, hW1⟩ : ∃ W1, ((w.alloc (.cells #[.int .u64 (za 0), .int .u64 (za 1), .int .u64 (za 2), .int .u64 (za 3)] 24)).alloc (.cells #[.int .u64 (zb 0), .int .u64 (zb 1), .int .u64 (zb 2), .int .u64 (zb 3)] 24)) = W1 := ⟨_, rfl⟩
 rw [hW1] at LA LB Q ⊢
 clear hW1
 refine (Hh.out _).mono ?_
 rintro e v13 ⟨rfl, q⟩
 have LA := LA.later q
 have LB := LB.later q
 have Q := Q.trans (q.mono Q.size)
 clear q
 have k14 := LA.cell 0 _ rfl
 have k15 := LA.cell 1 _ rfl
 have k16 := LA.cell 2 _ rfl
 have k17 := LA.cell 3 _ rfl
 have k18 := LB.cell 0 _ rfl
 have k19 := LB.cell 1 _ rfl
 have k20 := LB.cell 2 _ rfl
 have k21 := LB.cell 3 _ rfl
 go_wp2
 clear k14 k15 k16 k17 k18 k19 k20 k21
 go_ret
 exact ⟨rfl, Q⟩
theorem same_w (za zb : Nat → Int)  :
  Ret Tryz.prog 106 #[.agg #[.int .u64 (za 0), .int .u64 (za 1), .int .u64 (za 2), .int .u64 (za 3)], .agg #[.int .u64 (zb 0), .int .u64 (zb 1), .int .u64 (zb 2), .int .u64 (zb 3)]] (.bool (za 0 == zb 0 && za 1 == zb 1 && za 2 == zb 2 && za 3 == zb 3)) := by
 intro w
 go_enter Tryz.func106, Tryz.ntmps106
 have LA := Has.new w 24 #[.int .u64 (za 0), .int .u64 (za 1), .int .u64 (za 2), .int .u64 (za 3)]
 have k1 := LA.cell 0 _ rfl
 have k2 := LA.cell 1 _ rfl
 have k3 := LA.cell 2 _ rfl
 have k4 := LA.cell 3 _ rfl
 have LA := LA.alloc (.cells #[.int .u64 (zb 0), .int .u64 (zb 1), .int .u64 (zb 2), .int .u64 (zb 3)] 24)
 have LB := Has.new (w.alloc (.cells #[.int .u64 (za 0), .int .u64 (za 1), .int .u64 (za 2), .int .u64 (za 3)] 24)) 24 #[.int .u64 (zb 0), .int .u64 (zb 1), .int .u64 (zb 2), .int .u64 (zb 3)]
 simp only [World.size_alloc] at LB
 have k5 := LA.cell 0 _ rfl
 have k6 := LA.cell 1 _ rfl
 have k7 := LA.cell 2 _ rfl
 have k8 := LA.cell 3 _ rfl
 have k9 := LB.cell 0 _ rfl
 have k10 := LB.cell 1 _ rfl
 have k11 := LB.cell 2 _ rfl
 have k12 := LB.cell 3 _ rfl
 have Q := (Below.refl w.heap.size w)
 have Q := Q.alloc Q.size (.cells #[.int .u64 (za 0), .int .u64 (za 1), .int .u64 (za 2), .int .u64 (za 3)] 24)
 have Q := Q.alloc Q.size (.cells #[.int .u64 (zb 0), .int .u64 (zb 1), .int .u64 (zb 2), .int .u64 (zb 3)] 24)
 go_wp2
 clear k1 k2 k3 k4 k5 k6 k7 k8 k9 k10 k11 k12
 obtain ⟨W1, hW1⟩ : ∃ W1, ((w.alloc (.cells #[.int .u64 (za 0), .int .u64 (za 1), .int .u64 (za 2), .int .u64 (za 3)] 24)).alloc (.cells #[.int .u64 (zb 0), .int .u64 (zb 1), .int .u64 (zb 2), .int .u64 (zb 3)] 24)) = W1 := ⟨_, rfl⟩
 rw [hW1] at LA LB Q ⊢
 clear hW1
 go_ret
 exact ⟨rfl, Q⟩
theorem wcmp_negC (x y : Nat) : decide (wcmp x y < 0) = decide (x < y) := by
 unfold wcmp
 by_cases h : x < y
 ·simp [h]
 ·by_cases h2 : y < x
  ·simp [h, h2]
  ·simp [h, h2]
theorem less_retC (a b : Nat) (ha : W256 a) (hb : W256 b) : Ret Tryz.prog 119 #[wv a, wv b] (.bool (decide (a < b))) :=
 (less_w (lim a) (lim b) _ (cmp_ret a b ha hb)).of_eq rfl (by rw [wcmp_negC])
theorem same_retC (a b : Nat) (ha : W256 a) (hb : W256 b) : Ret Tryz.prog 106 #[wv a, wv b] (.bool (decide (a = b))) :=
 (same_w (lim a) (lim b)).of_eq rfl (by rw [lim_same a b ha hb])
def QOk (W : World) (v : Value) (ψ : Nat → Nat → Bool) : Prop :=
 ∃ g cap, v = .func (.func g) #[] cap ∧ Go.Proofs.Enters Tryz.prog g ∧ ∀ X, Keep W X → ∀ a b, W256 a → W256 b →
  Calls Tryz.prog g (#[wv a, wv b] ++ cap) X fun e w' => e = .returned (.bool (ψ a b)) ∧ Below X.heap.size X w'
theorem QOk.of {g : Nat} {ψ : Nat → Nat → Bool} (hE : Go.Proofs.Enters Tryz.prog g) (h : ∀ a b, W256 a → W256 b → Ret Tryz.prog g #[wv a, wv b] (.bool (ψ a b))) (W : World) : QOk W (.func (.func g) #[] #[]) ψ :=
 ⟨g, #[], rfl, hE, fun X _ a b ha hb => h a b ha hb X⟩
theorem asked1_any (w : World) (bq g : Nat) (cap : Array Value) (hE : Go.Proofs.Enters Tryz.prog g) (a b : Nat) (ψ : Bool) (hq : w.cell? ⟨bq, 0, none⟩ = some (.func (.func g) #[] cap)) (hbq : bq < w.heap.size)
  (hc : ∀ Y, Below w.heap.size w Y → Calls Tryz.prog g (#[wv a, wv b] ++ cap) Y fun e w' => e = .returned (.bool ψ) ∧ Below Y.heap.size Y w') :
  Calls Tryz.prog 147 #[wv a, wv b, .pointer (some ⟨bq, 0, none⟩)] w fun e w' => e = .returned (wv (truN ψ)) ∧ Below w.heap.size w w' := by
 have HC := hid hc
 unfold Go.Proofs.Enters at hE
 have HT := hid (truth_ret ψ)
 obtain ⟨z, hz⟩ : ∃ z, lim (truN ψ) = z := ⟨_, rfl⟩
 obtain ⟨za, hza⟩ : ∃ za, lim a = za := ⟨_, rfl⟩
 obtain ⟨zb, hzb⟩ : ∃ zb, lim b = zb := ⟨_, rfl⟩
 unfold wv at HC HT ⊢
 rw [hz] at HT ⊢
 rw [hza] at HC ⊢
 rw [hzb] at HC ⊢
 have HB := hid hbq
 have HQ0 := hid hq
 clear hc hz hza hzb hbq hq
 go_enter Tryz.func147, Tryz.ntmps147
 have Qq := Below.refl w.heap.size w
 have Qq := Qq.alloc Qq.size (.cells #[.int .u64 (za 0), .int .u64 (za 1), .int .u64 (za 2), .int .u64 (za 3)] 24)
 have Qq := Qq.alloc Qq.size (.cells #[.int .u64 (zb 0), .int .u64 (zb 1), .int .u64 (zb 2), .int .u64 (zb 3)] 24)
 have Qq := Qq.alloc Qq.size (.cells #[.int .u64 0, .int .u64 0, .int .u64 0, .int .u64 0] 24)
 have kq : (((w.alloc (.cells #[.int .u64 (za 0), .int .u64 (za 1), .int .u64 (za 2), .int .u64 (za 3)] 24)).alloc (.cells #[.int .u64 (zb 0), .int .u64 (zb 1), .int .u64 (zb 2), .int .u64 (zb 3)] 24)).alloc (.cells #[.int .u64 0, .int .u64 0, .int .u64 0, .int .u64 0] 24)).cell? ⟨bq, 0, none⟩ = some (.func (.func g) #[] cap) := (Qq.cell (p := ⟨bq, 0, none⟩) HB.out).trans HQ0.out
 clear Qq
 have LA := Has.new w 24 #[.int .u64 (za 0), .int .u64 (za 1), .int .u64 (za 2), .int .u64 (za 3)]
 have k1 := LA.cell 0 _ rfl
 have k2 := LA.cell 1 _ rfl
 have k3 := LA.cell 2 _ rfl
 have k4 := LA.cell 3 _ rfl
 have LA := LA.alloc (.cells #[.int .u64 (zb 0), .int .u64 (zb 1), .int .u64 (zb 2), .int .u64 (zb 3)] 24)
 have LB := Has.new (w.alloc (.cells #[.int .u64 (za 0), .int .u64 (za 1), .int .u64 (za 2), .int .u64 (za 3)] 24)) 24 #[.int .u64 (zb 0), .int .u64 (zb 1), .int .u64 (zb 2), .int .u64 (zb 3)]
 simp only [World.size_alloc] at LB
 have k5 := LA.cell 0 _ rfl
 have k6 := LA.cell 1 _ rfl
 have k7 := LA.cell 2 _ rfl
 have k8 := LA.cell 3 _ rfl
 have k9 := LB.cell 0 _ rfl
 have k10 := LB.cell 1 _ rfl
 have k11 := LB.cell 2 _ rfl
 have k12 := LB.cell 3 _ rfl
 have LA := LA.alloc (.cells #[.int .u64 0, .int .u64 0, .int .u64 0, .int .u64 0] 24)
 have LB := LB.alloc (.cells #[.int .u64 0, .int .u64 0, .int .u64 0, .int .u64 0] 24)
 have LR := Has.new ((w.alloc (.cells #[.int .u64 (za 0), .int .u64 (za 1), .int .u64 (za 2), .int .u64 (za 3)] 24)).alloc (.cells #[.int .u64 (zb 0), .int .u64 (zb 1), .int .u64 (zb 2), .int .u64 (zb 3)] 24)) 24 #[.int .u64 0, .int .u64 0, .int .u64 0, .int .u64 0]
 simp only [World.size_alloc] at LR
 have k13 := LA.cell 0 _ rfl
 have k14 := LA.cell 1 _ rfl
 have k15 := LA.cell 2 _ rfl
 have k16 := LA.cell 3 _ rfl
 have k17 := LB.cell 0 _ rfl
 have k18 := LB.cell 1 _ rfl
 have k19 := LB.cell 2 _ rfl
 have k20 := LB.cell 3 _ rfl
 have k21 := LR.cell 0 _ rfl
 have k22 := LR.cell 1 _ rfl
 have k23 := LR.cell 2 _ rfl
 have k24 := LR.cell 3 _ rfl
 have Q := (Below.refl w.heap.size w)
 have Q := Q.alloc Q.size (.cells #[.int .u64 (za 0), .int .u64 (za 1), .int .u64 (za 2), .int .u64 (za 3)] 24)
 have Q := Q.alloc Q.size (.cells #[.int .u64 (zb 0), .int .u64 (zb 1), .int .u64 (zb 2), .int .u64 (zb 3)] 24)
 have Q := Q.alloc Q.size (.cells #[.int .u64 0, .int .u64 0, .int .u64 0, .int .u64 0] 24)
 go_wp2_with fail
 clear k1 k2 k3 k4 k5 k6 k7 k8 k9 k10 k11 k12 k13 k14 k15 k16 k17 k18 k19 k20 k21 k22 k23 k24
 obtain ⟨W1, hW1⟩ : ∃ W1, (((w.alloc (.cells #[.int .u64 (za 0), .int .u64 (za 1), .int .u64 (za 2), .int .u64 (za 3)] 24)).alloc (.cells #[.int .u64 (zb 0), .int .u64 (zb 1), .int .u64 (zb 2), .int .u64 (zb 3)] 24)).alloc (.cells #[.int .u64 0, .int .u64 0, .int .u64 0, .int .u64 0] 24)) = W1 := ⟨_, rfl⟩
 rw [hW1] at LA LB LR Q ⊢
 clear hW1
 clear kq
 refine (HC.out _ Q).mono ?_
 rintro e v1 ⟨rfl, q⟩
 have LA := LA.later q
 have LB := LB.later q
 have LR := LR.later q
 have Q := Q.trans (q.mono Q.size)
 clear q hE HC HQ0
 go_wp2_with fail
 refine (HT.out _).mono ?_
 rintro e v2 ⟨rfl, q⟩
 have LA := LA.later q
 have LB := LB.later q
 have LR := LR.later q
 have Q := Q.trans (q.mono Q.size)
 clear q
 have r0 := LR.cell 0 _ rfl
 have z0 := LR.frozen 0
 have r1 := LR.cell 1 _ rfl
 have z1 := LR.frozen 1
 have r2 := LR.cell 2 _ rfl
 have z2 := LR.frozen 2
 have r3 := LR.cell 3 _ rfl
 have z3 := LR.frozen 3
 have k25 := LA.cell 0 _ rfl
 have k26 := LA.cell 1 _ rfl
 have k27 := LA.cell 2 _ rfl
 have k28 := LA.cell 3 _ rfl
 have k29 := LB.cell 0 _ rfl
 have k30 := LB.cell 1 _ rfl
 have k31 := LB.cell 2 _ rfl
 have k32 := LB.cell 3 _ rfl
 have HR := hid (((((LR.set 0 (.int .u64 (z 0))).set 1 (.int .u64 (z 1))).set 2 (.int .u64 (z 2))).set 3 (.int .u64 (z 3))))
 have HQ := hid (((((Q.setCell (p := ⟨w.heap.size + 1 + 1, 0, none⟩) (show w.heap.size ≤ _ by simp; first | done | omega) (.int .u64 (z 0))).setCell (p := ⟨w.heap.size + 1 + 1, 1, none⟩) (show w.heap.size ≤ _ by simp; first | done | omega) (.int .u64 (z 1))).setCell (p := ⟨w.heap.size + 1 + 1, 2, none⟩) (show w.heap.size ≤ _ by simp; first | done | omega) (.int .u64 (z 2))).setCell (p := ⟨w.heap.size + 1 + 1, 3, none⟩) (show w.heap.size ≤ _ by simp; first | done | omega) (.int .u64 (z 3))))
 clear Q LA LB LR
 go_wp2
 refine bodyPost_ret (results_word (m := z) rfl rfl HR.out) rfl ⟨rfl, HQ.out⟩
theorem turned1_any (w : World) (bq g : Nat) (cap : Array Value) (hE : Go.Proofs.Enters Tryz.prog g) (a b : Nat) (ψ : Bool) (hq : w.cell? ⟨bq, 0, none⟩ = some (.func (.func g) #[] cap)) (hbq : bq < w.heap.size)
  (hc : ∀ Y, Below w.heap.size w Y → Calls Tryz.prog g (#[wv b, wv a] ++ cap) Y fun e w' => e = .returned (.bool ψ) ∧ Below Y.heap.size Y w') :
  Calls Tryz.prog 149 #[wv a, wv b, .pointer (some ⟨bq, 0, none⟩)] w fun e w' => e = .returned (.bool ψ) ∧ Below w.heap.size w w' := by
 have HC := hid hc
 unfold Go.Proofs.Enters at hE
 have HT := hid (truth_ret ψ)
 obtain ⟨z, hz⟩ : ∃ z, lim (truN ψ) = z := ⟨_, rfl⟩
 obtain ⟨za, hza⟩ : ∃ za, lim a = za := ⟨_, rfl⟩
 obtain ⟨zb, hzb⟩ : ∃ zb, lim b = zb := ⟨_, rfl⟩
 unfold wv at HC HT ⊢
 rw [hz] at HT
 rw [hza] at HC ⊢
 rw [hzb] at HC ⊢
 have HB := hid hbq
 have HQ0 := hid hq
 clear hc hz hza hzb hbq hq
 go_enter Tryz.func149, Tryz.ntmps149
 have Qq := Below.refl w.heap.size w
 have Qq := Qq.alloc Qq.size (.cells #[.int .u64 (za 0), .int .u64 (za 1), .int .u64 (za 2), .int .u64 (za 3)] 24)
 have Qq := Qq.alloc Qq.size (.cells #[.int .u64 (zb 0), .int .u64 (zb 1), .int .u64 (zb 2), .int .u64 (zb 3)] 24)
 have kq : ((w.alloc (.cells #[.int .u64 (za 0), .int .u64 (za 1), .int .u64 (za 2), .int .u64 (za 3)] 24)).alloc (.cells #[.int .u64 (zb 0), .int .u64 (zb 1), .int .u64 (zb 2), .int .u64 (zb 3)] 24)).cell? ⟨bq, 0, none⟩ = some (.func (.func g) #[] cap) := (Qq.cell (p := ⟨bq, 0, none⟩) HB.out).trans HQ0.out
 clear Qq
 have LA := Has.new w 24 #[.int .u64 (za 0), .int .u64 (za 1), .int .u64 (za 2), .int .u64 (za 3)]
 have k1 := LA.cell 0 _ rfl
 have k2 := LA.cell 1 _ rfl
 have k3 := LA.cell 2 _ rfl
 have k4 := LA.cell 3 _ rfl
 have LA := LA.alloc (.cells #[.int .u64 (zb 0), .int .u64 (zb 1), .int .u64 (zb 2), .int .u64 (zb 3)] 24)
 have LB := Has.new (w.alloc (.cells #[.int .u64 (za 0), .int .u64 (za 1), .int .u64 (za 2), .int .u64 (za 3)] 24)) 24 #[.int .u64 (zb 0), .int .u64 (zb 1), .int .u64 (zb 2), .int .u64 (zb 3)]
 simp only [World.size_alloc] at LB
 have k5 := LA.cell 0 _ rfl
 have k6 := LA.cell 1 _ rfl
 have k7 := LA.cell 2 _ rfl
 have k8 := LA.cell 3 _ rfl
 have k9 := LB.cell 0 _ rfl
 have k10 := LB.cell 1 _ rfl
 have k11 := LB.cell 2 _ rfl
 have k12 := LB.cell 3 _ rfl
 have Q := (Below.refl w.heap.size w)
 have Q := Q.alloc Q.size (.cells #[.int .u64 (za 0), .int .u64 (za 1), .int .u64 (za 2), .int .u64 (za 3)] 24)
 have Q := Q.alloc Q.size (.cells #[.int .u64 (zb 0), .int .u64 (zb 1), .int .u64 (zb 2), .int .u64 (zb 3)] 24)
 go_wp2_with fail
 clear k1 k2 k3 k4 k5 k6 k7 k8 k9 k10 k11 k12
 obtain ⟨W1, hW1⟩ : ∃ W1, ((w.alloc (.cells #[.int .u64 (za 0), .int .u64 (za 1), .int .u64 (za 2), .int .u64 (za 3)] 24)).alloc (.cells #[.int .u64 (zb 0), .int .u64 (zb 1), .int .u64 (zb 2), .int .u64 (zb 3)] 24)) = W1 := ⟨_, rfl⟩
 rw [hW1] at LA LB Q ⊢
 clear hW1
 clear kq
 refine (HC.out _ Q).mono ?_
 rintro e v1 ⟨rfl, q⟩
 have LA := LA.later q
 have LB := LB.later q
 have Q := Q.trans (q.mono Q.size)
 clear q hE HC HQ0
 have k13 := LA.cell 0 _ rfl
 have k14 := LA.cell 1 _ rfl
 have k15 := LA.cell 2 _ rfl
 have k16 := LA.cell 3 _ rfl
 have k17 := LB.cell 0 _ rfl
 have k18 := LB.cell 1 _ rfl
 have k19 := LB.cell 2 _ rfl
 have k20 := LB.cell 3 _ rfl
 go_wp2
 clear k13 k14 k15 k16 k17 k18 k19 k20
 go_ret
 exact ⟨rfl, Q⟩
theorem asked_any (W : World) (q : Value) (ψ : Nat → Nat → Bool) (hq : QOk W q ψ) :
  Calls Tryz.prog 118 #[q] W fun e w' => ∃ v, e = .returned v ∧ FnOk w' v 2 (fun l => truN (ψ (l.getD 0 0) (l.getD 1 0))) ∧ Below W.heap.size W w' := by
 obtain ⟨g, cap, rfl, hE, hc⟩ := hq
 have HC := hid hc
 have HE := hid hE
 have hqb := newA W (.cells #[.func (.func g) #[] cap] 114)
 have B := Has.new W 114 #[.func (.func g) #[] cap]
 have HQB := hid hqb
 have HB := hid B
 clear hc hE hqb B
 go_enter Tryz.func118, Tryz.ntmps118
 go_wp2_with fail
 go_ret
 refine ⟨_, rfl, ⟨_, _, rfl, enters_of Tryz.func147 (by kernel_rfl) rfl, fun X hX hT l hl hw => ?_⟩, HQB.out⟩
 match l, hl with
 | [a, b], _ =>
  refine ⟨truN_lt _, ?_⟩
  exact asked1_any X _ g cap HE.out a b _ (hX.2 _ _ (HB.out.cell 0 _ rfl)) (Nat.lt_of_lt_of_le HB.out.lt hX.1) (fun Y hY => HC.out Y ((Keep.of HQB.out).trans (hX.trans (Keep.of hY))) a b (hw a (by simp)) (hw b (by simp)))
theorem turned_any (W : World) (q : Value) (ψ : Nat → Nat → Bool) (hq : QOk W q ψ) :
  Calls Tryz.prog 120 #[q] W fun e w' => ∃ v, e = .returned v ∧ QOk w' v (fun a b => ψ b a) ∧ Below W.heap.size W w' := by
 obtain ⟨g, cap, rfl, hE, hc⟩ := hq
 have HC := hid hc
 have HE := hid hE
 have hqb := newA W (.cells #[.func (.func g) #[] cap] 114)
 have B := Has.new W 114 #[.func (.func g) #[] cap]
 have HQB := hid hqb
 have HB := hid B
 clear hc hE hqb B
 go_enter Tryz.func120, Tryz.ntmps120
 go_wp2_with fail
 go_ret
 refine ⟨_, rfl, ⟨_, _, rfl, enters_of Tryz.func149 (by kernel_rfl) rfl, fun X hX a b ha hb => ?_⟩, HQB.out⟩
 exact turned1_any X _ g cap HE.out a b _ (hX.2 _ _ (HB.out.cell 0 _ rfl)) (Nat.lt_of_lt_of_le HB.out.lt hX.1) (fun Y hY => HC.out Y ((Keep.of HQB.out).trans (hX.trans (Keep.of hY))) b a hb ha)
theorem zero_w (za z : Nat → Int) (b : Bool) (h1 : Ret Tryz.prog 106 #[.agg #[.int .u64 (za 0), .int .u64 (za 1), .int .u64 (za 2), .int .u64 (za 3)], .agg #[.int .u64 0, .int .u64 0, .int .u64 0, .int .u64 0]] (.bool b)) (h2 : Ret Tryz.prog 105 #[.bool b] (.agg #[.int .u64 (z 0), .int .u64 (z 1), .int .u64 (z 2), .int .u64 (z 3)])) :
  Ret Tryz.prog 104 #[.agg #[.int .u64 (za 0), .int .u64 (za 1), .int .u64 (za 2), .int .u64 (za 3)]] (.agg #[.int .u64 (z 0), .int .u64 (z 1), .int .u64 (z 2), .int .u64 (z 3)]) := by
 intro w
 have Hh1 := hid h1
 have Hh2 := hid h2
 clear h1 h2
 go_enter Tryz.func104, Tryz.ntmps104
 have LA := Has.new w 24 #[.int .u64 (za 0), .int .u64 (za 1), .int .u64 (za 2), .int .u64 (za 3)]
 have k1 := LA.cell 0 _ rfl
 have k2 := LA.cell 1 _ rfl
 have k3 := LA.cell 2 _ rfl
 have k4 := LA.cell 3 _ rfl
 have LA := LA.alloc (.cells #[.int .u64 0, .int .u64 0, .int .u64 0, .int .u64 0] 24)
 have LR := Has.new (w.alloc (.cells #[.int .u64 (za 0), .int .u64 (za 1), .int .u64 (za 2), .int .u64 (za 3)] 24)) 24 #[.int .u64 0, .int .u64 0, .int .u64 0, .int .u64 0]
 simp only [World.size_alloc] at LR
 have k5 := LA.cell 0 _ rfl
 have k6 := LA.cell 1 _ rfl
 have k7 := LA.cell 2 _ rfl
 have k8 := LA.cell 3 _ rfl
 have k9 := LR.cell 0 _ rfl
 have k10 := LR.cell 1 _ rfl
 have k11 := LR.cell 2 _ rfl
 have k12 := LR.cell 3 _ rfl
 have Q := (Below.refl w.heap.size w)
 have Q := Q.alloc Q.size (.cells #[.int .u64 (za 0), .int .u64 (za 1), .int .u64 (za 2), .int .u64 (za 3)] 24)
 have Q := Q.alloc Q.size (.cells #[.int .u64 0, .int .u64 0, .int .u64 0, .int .u64 0] 24)
 go_wp2_with fail
 clear k1 k2 k3 k4 k5 k6 k7 k8 k9 k10 k11 k12
 obtain ⟨W1, hW1⟩ : ∃ W1, ((w.alloc (.cells #[.int .u64 (za 0), .int .u64 (za 1), .int .u64 (za 2), .int .u64 (za 3)] 24)).alloc (.cells #[.int .u64 0, .int .u64 0, .int .u64 0, .int .u64 0] 24)) = W1 := ⟨_, rfl⟩
 rw [hW1] at LA LR Q ⊢
 clear hW1
 refine (Hh1.out _).mono ?_
 rintro e v13 ⟨rfl, q⟩
 have LA := LA.later q
 have LR := LR.later q
 have Q := Q.trans (q.mono Q.size)
 clear q
 have k14 := LA.cell 0 _ rfl
 have k15 := LA.cell 1 _ rfl
 have k16 := LA.cell 2 _ rfl
 have k17 := LA.cell 3 _ rfl
 have k18 := LR.cell 0 _ rfl
 have k19 := LR.cell 1 _ rfl
 have k20 := LR.cell 2 _ rfl
 have k21 := LR.cell 3 _ rfl
 go_wp2_with fail
 clear k14 k15 k16 k17 k18 k19 k20 k21
 refine (Hh2.out _).mono ?_
 rintro e v22 ⟨rfl, q⟩
 have LA := LA.later q
 have LR := LR.later q
 have Q := Q.trans (q.mono Q.size)
 clear q
 have r0 := LR.cell 0 _ rfl
 have z0 := LR.frozen 0
 have r1 := LR.cell 1 _ rfl
 have z1 := LR.frozen 1
 have r2 := LR.cell 2 _ rfl
 have z2 := LR.frozen 2
 have r3 := LR.cell 3 _ rfl
 have z3 := LR.frozen 3
 have k23 := LA.cell 0 _ rfl
 have k24 := LA.cell 1 _ rfl
 have k25 := LA.cell 2 _ rfl
 have k26 := LA.cell 3 _ rfl
 have HR := hid (((((LR.set 0 (.int .u64 (z 0))).set 1 (.int .u64 (z 1))).set 2 (.int .u64 (z 2))).set 3 (.int .u64 (z 3))))
 have HQ := hid (((((Q.setCell (p := ⟨w.heap.size + 1, 0, none⟩) (show w.heap.size ≤ _ by simp; first | done | omega) (.int .u64 (z 0))).setCell (p := ⟨w.heap.size + 1, 1, none⟩) (show w.heap.size ≤ _ by simp; first | done | omega) (.int .u64 (z 1))).setCell (p := ⟨w.heap.size + 1, 2, none⟩) (show w.heap.size ≤ _ by simp; first | done | omega) (.int .u64 (z 2))).setCell (p := ⟨w.heap.size + 1, 3, none⟩) (show w.heap.size ≤ _ by simp; first | done | omega) (.int .u64 (z 3))))
 clear Q LA LR
 go_wp2
 refine bodyPost_ret (results_word (m := z) rfl rfl HR.out) rfl ⟨rfl, HQ.out⟩
theorem zero_retC (a : Nat) (ha : W256 a) : Ret Tryz.prog 104 #[wv a] (wv (truN (decide (a = 0)))) := by
 have h := same_retC a 0 ha (by unfold W256; omega)
 rw [wv_0] at h
 exact zero_w (lim a) _ _ h (truth_ret _)
end
section
open Go Go.RowKit Go.Maps
attribute [local go_sem] Oper.semAt_some Grows wide_fn
theorem w256_p (a : Nat) : W256 a ↔ a < 2 ^ 256 := w256_pow a
theorem wsub_ltC (a b : Nat) : W256 (wsub a b) := by unfold wsub; exact wmod_lt _
theorem szN_lt (a : Nat) (ha : W256 a) : W256 (szN a) := sgN_lt _ _ ha
theorem mod0_lt (a b : Nat) (ha : W256 a) : W256 (if b = 0 then 0 else a % b) := by
 split
 ·unfold W256; omega
 ·exact Nat.lt_of_le_of_lt (Nat.mod_le _ _) ha
theorem modn_lt (a b : Nat) (hb : W256 b) : W256 (if b = 0 then 0 else a % b) := by
 split
 ·unfold W256; omega
 ·exact Nat.lt_trans (Nat.mod_lt _ (by omega)) hb
theorem and_ltC (a b : Nat) (ha : W256 a) : W256 (a &&& b) := Nat.lt_of_le_of_lt Nat.and_le_left ha
theorem or_ltC (a b : Nat) (ha : W256 a) (hb : W256 b) : W256 (a ||| b) := (w256_p _).2 (Nat.or_lt_two_pow ((w256_p _).1 ha) ((w256_p _).1 hb))
theorem xor_ltC (a b : Nat) (ha : W256 a) (hb : W256 b) : W256 (a ^^^ b) := (w256_p _).2 (Nat.xor_lt_two_pow ((w256_p _).1 ha) ((w256_p _).1 hb))
theorem byteV_w (a b : Nat) : W256 (byteV a b) := Nat.lt_trans (byteV_lt a b) (by decide)
def isTwo (op : Nat) : Bool := decide ((1 ≤ op ∧ op ≤ 7) ∨ op = 10 ∨ op = 11 ∨ (16 ≤ op ∧ op ≤ 20) ∨ (22 ≤ op ∧ op ≤ 24) ∨ (26 ≤ op ∧ op ≤ 29))
def isOne (op : Nat) : Bool := decide (op = 21 ∨ op = 25)
def isThree (op : Nat) : Bool := decide (op = 8 ∨ op = 9)
abbrev two' (op : Nat) : List Nat → Nat := fun l => twoN op (l.getD 0 0) (l.getD 1 0)
abbrev one' (op : Nat) : List Nat → Nat := fun l => oneN op (l.getD 0 0)
abbrev three' (op : Nat) : List Nat → Nat := fun l => threeN op (l.getD 0 0) (l.getD 1 0) (l.getD 2 0)
def NewF (W : World) (k : Nat) (is : Nat → Bool) (φ : Nat → List Nat → Nat) (e : Ending) (w' : World) : Prop :=
 ∃ B n f, e = .returned (.map (some B)) ∧ MapF w' B n f ∧ Below W.heap.size W w' ∧ ∀ op, op < 256 → (is op = false → f op = none) ∧ (is op = true → ∃ v, f op = some v ∧ FnOk w' v k (φ op))
theorem ofOne_any (W : World) : Calls Tryz.prog 65 #[] W (NewF W 1 isOne one') := by
 have hmm := @run_makeMap Tryz.prog
 have hu : Tryz.prog.underlying 78 = some (.map tB 76) := Tryz.underlying78
 have HU := hid hu
 clear hu
 obtain ⟨B, hB⟩ : ∃ B, W.heap.size = B := ⟨_, rfl⟩
 have m0 := hid (hB ▸ MapF.made W : MapF (W.alloc (.map #[] 0)) B 0 fun _ => none)
 have b0 := hid (hB ▸ (Below.refl _ W).alloc (Nat.le_refl _) _ : Below B W (W.alloc (.map #[] 0)))
 go_enter Tryz.func65, Tryz.ntmps65
 go_wp2_with (first | (refine wpList_putF _ rfl 78 76 HU.out _ _ _ rfl _ _ _ rfl m0.out (by decide) 21 (.func (.func 104) #[] #[]) rfl (by decide) rfl ?_; intro w1 h g; have k1 := hid (Keep.put m0.out g); have m1 := hid h; have b1 := hid (b0.out.grown g (by have := b0.out.size; omega) (fun k e => by cases e; exact Nat.le_refl _)); clear h g) | (refine wpList_putF _ rfl 78 76 HU.out _ _ _ rfl _ _ _ rfl m1.out (by decide) 25 (.func (.func 107) #[] #[]) rfl (by decide) rfl ?_; intro w2 h g; have k2 := hid (Keep.put m1.out g); have m2 := hid h; have b2 := hid (b1.out.grown g (by have := b1.out.size; omega) (fun k e => by cases e; exact Nat.le_refl _)); clear h g) | go_in)
 go_ret
 refine ⟨B, _, _, rfl, m2.out, hB ▸ b2.out, fun op ho => ?_⟩
 refine ⟨fun h => ?_, fun h => ?_⟩
 ·unfold isOne at h
  have h := of_decide_eq_false h
  unfold putF
  repeat rw [if_neg (by omega)]
 ·unfold isOne at h
  have h := of_decide_eq_true h
  obtain rfl | rfl : op = 21 ∨ op = 25 := by omega
  ·exact ⟨_, rfl, FnOk.of_one (enters_of Tryz.func104 (by kernel_rfl) rfl) (fun a ha => ⟨truN_lt _, (zero_retC a ha).toT⟩) _⟩
  ·exact ⟨_, rfl, FnOk.of_one (enters_of Tryz.func107 (by kernel_rfl) rfl) (fun a ha => ⟨xor_ltC a _ ha M1_lt, (not_ret a ha).toT⟩) _⟩
theorem ofThree_any (W : World) : Calls Tryz.prog 71 #[] W (NewF W 3 isThree three') := by
 have hmm := @run_makeMap Tryz.prog
 have hu : Tryz.prog.underlying 90 = some (.map tB 88) := Tryz.underlying90
 have HU := hid hu
 clear hu
 obtain ⟨B, hB⟩ : ∃ B, W.heap.size = B := ⟨_, rfl⟩
 have m0 := hid (hB ▸ MapF.made W : MapF (W.alloc (.map #[] 0)) B 0 fun _ => none)
 have b0 := hid (hB ▸ (Below.refl _ W).alloc (Nat.le_refl _) _ : Below B W (W.alloc (.map #[] 0)))
 go_enter Tryz.func71, Tryz.ntmps71
 go_wp2_with (first | (refine wpList_putF _ rfl 90 88 HU.out _ _ _ rfl _ _ _ rfl m0.out (by decide) 8 (.func (.func 130) #[] #[]) rfl (by decide) rfl ?_; intro w1 h g; have k1 := hid (Keep.put m0.out g); have m1 := hid h; have b1 := hid (b0.out.grown g (by have := b0.out.size; omega) (fun k e => by cases e; exact Nat.le_refl _)); clear h g) | (refine wpList_putF _ rfl 90 88 HU.out _ _ _ rfl _ _ _ rfl m1.out (by decide) 9 (.func (.func 131) #[] #[]) rfl (by decide) rfl ?_; intro w2 h g; have k2 := hid (Keep.put m1.out g); have m2 := hid h; have b2 := hid (b1.out.grown g (by have := b1.out.size; omega) (fun k e => by cases e; exact Nat.le_refl _)); clear h g) | go_in)
 go_ret
 refine ⟨B, _, _, rfl, m2.out, hB ▸ b2.out, fun op ho => ?_⟩
 refine ⟨fun h => ?_, fun h => ?_⟩
 ·unfold isThree at h
  have h := of_decide_eq_false h
  unfold putF
  repeat rw [if_neg (by omega)]
 ·unfold isThree at h
  have h := of_decide_eq_true h
  obtain rfl | rfl : op = 8 ∨ op = 9 := by omega
  ·exact ⟨_, rfl, FnOk.of_three (enters_of Tryz.func130 (by kernel_rfl) rfl) (fun a b c ha hb hc => ⟨modn_lt _ c hc, (addmod_ret a b c ha hb hc).toT⟩) _⟩
  ·exact ⟨_, rfl, FnOk.of_three (enters_of Tryz.func131 (by kernel_rfl) rfl) (fun a b c ha hb hc => ⟨modn_lt _ c hc, (mulmod_ret a b c ha hb hc).toT⟩) _⟩
theorem ofTwo_any (W : World) : Calls Tryz.prog 68 #[] W (NewF W 2 isTwo two') := by
 have hmm := @run_makeMap Tryz.prog
 have hu : Tryz.prog.underlying 84 = some (.map tB 82) := Tryz.underlying84
 have HU := hid hu
 clear hu
 have QL := hid (fun W => QOk.of (enters_of Tryz.func119 (by kernel_rfl) rfl) less_retC W)
 have QB := hid (fun W => QOk.of (enters_of Tryz.func121 (by kernel_rfl) rfl) less_ret W)
 have QS := hid (fun W => QOk.of (enters_of Tryz.func106 (by kernel_rfl) rfl) same_retC W)
 obtain ⟨B, hB⟩ : ∃ B, W.heap.size = B := ⟨_, rfl⟩
 have m0 := hid (hB ▸ MapF.made W : MapF (W.alloc (.map #[] 0)) B 0 fun _ => none)
 have b0 := hid (hB ▸ (Below.refl _ W).alloc (Nat.le_refl _) _ : Below B W (W.alloc (.map #[] 0)))
 go_enter Tryz.func68, Tryz.ntmps68
 go_wp2_with (first | (refine wpList_putF _ rfl 84 82 HU.out _ _ _ rfl _ _ _ rfl m0.out (by decide) 1 (.func (.func 109) #[] #[]) rfl (by decide) rfl ?_; intro w1 h g; have k1 := hid (Keep.put m0.out g); have m1 := hid h; have b1 := hid (b0.out.grown g (by have := b0.out.size; omega) (fun k e => by cases e; exact Nat.le_refl _)); clear h g) | (refine wpList_putF _ rfl 84 82 HU.out _ _ _ rfl _ _ _ rfl m1.out (by decide) 2 (.func (.func 110) #[] #[]) rfl (by decide) rfl ?_; intro w2 h g; have k2 := hid (Keep.put m1.out g); have m2 := hid h; have b2 := hid (b1.out.grown g (by have := b1.out.size; omega) (fun k e => by cases e; exact Nat.le_refl _)); clear h g) | (refine wpList_putF _ rfl 84 82 HU.out _ _ _ rfl _ _ _ rfl m2.out (by decide) 3 (.func (.func 111) #[] #[]) rfl (by decide) rfl ?_; intro w3 h g; have k3 := hid (Keep.put m2.out g); have m3 := hid h; have b3 := hid (b2.out.grown g (by have := b2.out.size; omega) (fun k e => by cases e; exact Nat.le_refl _)); clear h g) | (refine wpList_putF _ rfl 84 82 HU.out _ _ _ rfl _ _ _ rfl m3.out (by decide) 4 (.func (.func 112) #[] #[]) rfl (by decide) rfl ?_; intro w4 h g; have k4 := hid (Keep.put m3.out g); have m4 := hid h; have b4 := hid (b3.out.grown g (by have := b3.out.size; omega) (fun k e => by cases e; exact Nat.le_refl _)); clear h g) | (refine wpList_putF _ rfl 84 82 HU.out _ _ _ rfl _ _ _ rfl m4.out (by decide) 5 (.func (.func 113) #[] #[]) rfl (by decide) rfl ?_; intro w5 h g; have k5 := hid (Keep.put m4.out g); have m5 := hid h; have b5 := hid (b4.out.grown g (by have := b4.out.size; omega) (fun k e => by cases e; exact Nat.le_refl _)); clear h g) | (refine wpList_putF _ rfl 84 82 HU.out _ _ _ rfl _ _ _ rfl m5.out (by decide) 6 (.func (.func 114) #[] #[]) rfl (by decide) rfl ?_; intro w6 h g; have k6 := hid (Keep.put m5.out g); have m6 := hid h; have b6 := hid (b5.out.grown g (by have := b5.out.size; omega) (fun k e => by cases e; exact Nat.le_refl _)); clear h g) | (refine wpList_putF _ rfl 84 82 HU.out _ _ _ rfl _ _ _ rfl m6.out (by decide) 7 (.func (.func 115) #[] #[]) rfl (by decide) rfl ?_; intro w7 h g; have k7 := hid (Keep.put m6.out g); have m7 := hid h; have b7 := hid (b6.out.grown g (by have := b6.out.size; omega) (fun k e => by cases e; exact Nat.le_refl _)); clear h g) | (refine wpList_putF _ rfl 84 82 HU.out _ _ _ rfl _ _ _ rfl m7.out (by decide) 10 (.func (.func 116) #[] #[]) rfl (by decide) rfl ?_; intro w8 h g; have k8 := hid (Keep.put m7.out g); have m8 := hid h; have b8 := hid (b7.out.grown g (by have := b7.out.size; omega) (fun k e => by cases e; exact Nat.le_refl _)); clear h g) | (refine wpList_putF _ rfl 84 82 HU.out _ _ _ rfl _ _ _ rfl m8.out (by decide) 11 (.func (.func 117) #[] #[]) rfl (by decide) rfl ?_; intro w9 h g; have k9 := hid (Keep.put m8.out g); have m9 := hid h; have b9 := hid (b8.out.grown g (by have := b8.out.size; omega) (fun k e => by cases e; exact Nat.le_refl _)); clear h g) | (go_at_call 118; refine (asked_any _ _ _ (QL.out _)).mono ?_; rintro _ w10 ⟨v16, rfl, F16, hb⟩; have m10 := hid (m9.out.later hb); have b10 := hid (b9.out.trans (hb.mono (by have := b9.out.size; omega))); have k10 := hid (Keep.of hb); have F16 := hid F16; clear hb) | (refine wpList_putF _ rfl 84 82 HU.out _ _ _ rfl _ _ _ rfl m10.out (by decide) 16 v16 rfl (by decide) rfl ?_; intro w11 h g; have k11 := hid (Keep.put m10.out g); have m11 := hid h; have b11 := hid (b10.out.grown g (by have := b10.out.size; omega) (fun k e => by cases e; exact Nat.le_refl _)); clear h g) | (go_at_call 120; refine (turned_any _ _ _ (QL.out _)).mono ?_; rintro _ w12 ⟨t17, rfl, T17, hb⟩; have m12 := hid (m11.out.later hb); have b12 := hid (b11.out.trans (hb.mono (by have := b11.out.size; omega))); have k12 := hid (Keep.of hb); obtain ⟨gt17, ct17, et17, rt17⟩ := T17; have T17 := hid (⟨gt17, ct17, et17, rt17⟩ : QOk w12 t17 _); clear hb rt17; subst et17) | (go_at_call 118; refine (asked_any _ _ _ T17.out).mono ?_; rintro _ w13 ⟨v17, rfl, F17, hb⟩; have m13 := hid (m12.out.later hb); have b13 := hid (b12.out.trans (hb.mono (by have := b12.out.size; omega))); have k13 := hid (Keep.of hb); have F17 := hid F17; clear hb) | (refine wpList_putF _ rfl 84 82 HU.out _ _ _ rfl _ _ _ rfl m13.out (by decide) 17 v17 rfl (by decide) rfl ?_; intro w14 h g; have k14 := hid (Keep.put m13.out g); have m14 := hid h; have b14 := hid (b13.out.grown g (by have := b13.out.size; omega) (fun k e => by cases e; exact Nat.le_refl _)); clear h g) | (go_at_call 118; refine (asked_any _ _ _ (QB.out _)).mono ?_; rintro _ w15 ⟨v18, rfl, F18, hb⟩; have m15 := hid (m14.out.later hb); have b15 := hid (b14.out.trans (hb.mono (by have := b14.out.size; omega))); have k15 := hid (Keep.of hb); have F18 := hid F18; clear hb) | (refine wpList_putF _ rfl 84 82 HU.out _ _ _ rfl _ _ _ rfl m15.out (by decide) 18 v18 rfl (by decide) rfl ?_; intro w16 h g; have k16 := hid (Keep.put m15.out g); have m16 := hid h; have b16 := hid (b15.out.grown g (by have := b15.out.size; omega) (fun k e => by cases e; exact Nat.le_refl _)); clear h g) | (go_at_call 120; refine (turned_any _ _ _ (QB.out _)).mono ?_; rintro _ w17 ⟨t19, rfl, T19, hb⟩; have m17 := hid (m16.out.later hb); have b17 := hid (b16.out.trans (hb.mono (by have := b16.out.size; omega))); have k17 := hid (Keep.of hb); obtain ⟨gt19, ct19, et19, rt19⟩ := T19; have T19 := hid (⟨gt19, ct19, et19, rt19⟩ : QOk w17 t19 _); clear hb rt19; subst et19) | (go_at_call 118; refine (asked_any _ _ _ T19.out).mono ?_; rintro _ w18 ⟨v19, rfl, F19, hb⟩; have m18 := hid (m17.out.later hb); have b18 := hid (b17.out.trans (hb.mono (by have := b17.out.size; omega))); have k18 := hid (Keep.of hb); have F19 := hid F19; clear hb) | (refine wpList_putF _ rfl 84 82 HU.out _ _ _ rfl _ _ _ rfl m18.out (by decide) 19 v19 rfl (by decide) rfl ?_; intro w19 h g; have k19 := hid (Keep.put m18.out g); have m19 := hid h; have b19 := hid (b18.out.grown g (by have := b18.out.size; omega) (fun k e => by cases e; exact Nat.le_refl _)); clear h g) | (go_at_call 118; refine (asked_any _ _ _ (QS.out _)).mono ?_; rintro _ w20 ⟨v20, rfl, F20, hb⟩; have m20 := hid (m19.out.later hb); have b20 := hid (b19.out.trans (hb.mono (by have := b19.out.size; omega))); have k20 := hid (Keep.of hb); have F20 := hid F20; clear hb) | (refine wpList_putF _ rfl 84 82 HU.out _ _ _ rfl _ _ _ rfl m20.out (by decide) 20 v20 rfl (by decide) rfl ?_; intro w21 h g; have k21 := hid (Keep.put m20.out g); have m21 := hid h; have b21 := hid (b20.out.grown g (by have := b20.out.size; omega) (fun k e => by cases e; exact Nat.le_refl _)); clear h g) | (refine wpList_putF _ rfl 84 82 HU.out _ _ _ rfl _ _ _ rfl m21.out (by decide) 22 (.func (.func 122) #[] #[]) rfl (by decide) rfl ?_; intro w22 h g; have k22 := hid (Keep.put m21.out g); have m22 := hid h; have b22 := hid (b21.out.grown g (by have := b21.out.size; omega) (fun k e => by cases e; exact Nat.le_refl _)); clear h g) | (refine wpList_putF _ rfl 84 82 HU.out _ _ _ rfl _ _ _ rfl m22.out (by decide) 23 (.func (.func 123) #[] #[]) rfl (by decide) rfl ?_; intro w23 h g; have k23 := hid (Keep.put m22.out g); have m23 := hid h; have b23 := hid (b22.out.grown g (by have := b22.out.size; omega) (fun k e => by cases e; exact Nat.le_refl _)); clear h g) | (refine wpList_putF _ rfl 84 82 HU.out _ _ _ rfl _ _ _ rfl m23.out (by decide) 24 (.func (.func 124) #[] #[]) rfl (by decide) rfl ?_; intro w24 h g; have k24 := hid (Keep.put m23.out g); have m24 := hid h; have b24 := hid (b23.out.grown g (by have := b23.out.size; omega) (fun k e => by cases e; exact Nat.le_refl _)); clear h g) | (refine wpList_putF _ rfl 84 82 HU.out _ _ _ rfl _ _ _ rfl m24.out (by decide) 26 (.func (.func 125) #[] #[]) rfl (by decide) rfl ?_; intro w25 h g; have k25 := hid (Keep.put m24.out g); have m25 := hid h; have b25 := hid (b24.out.grown g (by have := b24.out.size; omega) (fun k e => by cases e; exact Nat.le_refl _)); clear h g) | (refine wpList_putF _ rfl 84 82 HU.out _ _ _ rfl _ _ _ rfl m25.out (by decide) 27 (.func (.func 126) #[] #[]) rfl (by decide) rfl ?_; intro w26 h g; have k26 := hid (Keep.put m25.out g); have m26 := hid h; have b26 := hid (b25.out.grown g (by have := b25.out.size; omega) (fun k e => by cases e; exact Nat.le_refl _)); clear h g) | (refine wpList_putF _ rfl 84 82 HU.out _ _ _ rfl _ _ _ rfl m26.out (by decide) 28 (.func (.func 127) #[] #[]) rfl (by decide) rfl ?_; intro w27 h g; have k27 := hid (Keep.put m26.out g); have m27 := hid h; have b27 := hid (b26.out.grown g (by have := b26.out.size; omega) (fun k e => by cases e; exact Nat.le_refl _)); clear h g) | (refine wpList_putF _ rfl 84 82 HU.out _ _ _ rfl _ _ _ rfl m27.out (by decide) 29 (.func (.func 128) #[] #[]) rfl (by decide) rfl ?_; intro w28 h g; have k28 := hid (Keep.put m27.out g); have m28 := hid h; have b28 := hid (b27.out.grown g (by have := b27.out.size; omega) (fun k e => by cases e; exact Nat.le_refl _)); clear h g) | go_in)
 go_ret
 refine ⟨B, _, _, rfl, m28.out, hB ▸ b28.out, fun op ho => ?_⟩
 have F16 := F16.out.later (((((((((((((((((((Keep.refl w10).trans k11.out).trans k12.out).trans k13.out).trans k14.out).trans k15.out).trans k16.out).trans k17.out).trans k18.out).trans k19.out).trans k20.out).trans k21.out).trans k22.out).trans k23.out).trans k24.out).trans k25.out).trans k26.out).trans k27.out).trans k28.out)
 have F17 := F17.out.later ((((((((((((((((Keep.refl w13).trans k14.out).trans k15.out).trans k16.out).trans k17.out).trans k18.out).trans k19.out).trans k20.out).trans k21.out).trans k22.out).trans k23.out).trans k24.out).trans k25.out).trans k26.out).trans k27.out).trans k28.out)
 have F18 := F18.out.later ((((((((((((((Keep.refl w15).trans k16.out).trans k17.out).trans k18.out).trans k19.out).trans k20.out).trans k21.out).trans k22.out).trans k23.out).trans k24.out).trans k25.out).trans k26.out).trans k27.out).trans k28.out)
 have F19 := F19.out.later (((((((((((Keep.refl w18).trans k19.out).trans k20.out).trans k21.out).trans k22.out).trans k23.out).trans k24.out).trans k25.out).trans k26.out).trans k27.out).trans k28.out)
 have F20 := F20.out.later (((((((((Keep.refl w20).trans k21.out).trans k22.out).trans k23.out).trans k24.out).trans k25.out).trans k26.out).trans k27.out).trans k28.out)
 refine ⟨fun h => ?_, fun h => ?_⟩
 ·unfold isTwo at h
  have h := of_decide_eq_false h
  unfold putF
  repeat rw [if_neg (by omega)]
 ·unfold isTwo at h
  have h := of_decide_eq_true h
  obtain rfl | rfl | rfl | rfl | rfl | rfl | rfl | rfl | rfl | rfl | rfl | rfl | rfl | rfl | rfl | rfl | rfl | rfl | rfl | rfl | rfl : op = 1 ∨ op = 2 ∨ op = 3 ∨ op = 4 ∨ op = 5 ∨ op = 6 ∨ op = 7 ∨ op = 10 ∨ op = 11 ∨ op = 16 ∨ op = 17 ∨ op = 18 ∨ op = 19 ∨ op = 20 ∨ op = 22 ∨ op = 23 ∨ op = 24 ∨ op = 26 ∨ op = 27 ∨ op = 28 ∨ op = 29 := by omega
  ·exact ⟨_, rfl, FnOk.of_two (enters_of Tryz.func109 (by kernel_rfl) rfl) (fun a b ha hb => ⟨wmod_lt _, (add_ret a b ha hb).toT⟩) _⟩
  ·exact ⟨_, rfl, FnOk.of_two (enters_of Tryz.func110 (by kernel_rfl) rfl) (fun a b ha hb => ⟨wmod_lt _, (mul_ret a b ha hb).toT⟩) _⟩
  ·exact ⟨_, rfl, FnOk.of_two (enters_of Tryz.func111 (by kernel_rfl) rfl) (fun a b ha hb => ⟨wsub_ltC a b, (sub_ret a b ha hb).toT⟩) _⟩
  ·exact ⟨_, rfl, FnOk.of_two (enters_of Tryz.func112 (by kernel_rfl) rfl) (fun a b ha hb => ⟨div_lt a b ha, (div_ret a b ha hb).toT⟩) _⟩
  ·exact ⟨_, rfl, FnOk.of_two (enters_of Tryz.func113 (by kernel_rfl) rfl) (fun a b ha hb => ⟨sgN_lt _ _ (div_lt _ _ (szN_lt a ha)), (sdiv_ret a b ha hb).toT⟩) _⟩
  ·exact ⟨_, rfl, FnOk.of_two (enters_of Tryz.func114 (by kernel_rfl) rfl) (fun a b ha hb => ⟨mod0_lt a b ha, (mod_ret a b ha hb).toT⟩) _⟩
  ·exact ⟨_, rfl, FnOk.of_two (enters_of Tryz.func115 (by kernel_rfl) rfl) (fun a b ha hb => ⟨sgN_lt _ _ (mod0_lt _ _ (szN_lt a ha)), (smod_ret a b ha hb).toT⟩) _⟩
  ·exact ⟨_, rfl, FnOk.of_two (enters_of Tryz.func116 (by kernel_rfl) rfl) (fun a b ha hb => ⟨wmod_lt _, (exp_ret a b ha hb).toT⟩) _⟩
  ·exact ⟨_, rfl, FnOk.of_two (enters_of Tryz.func117 (by kernel_rfl) rfl) (fun a b ha hb => ⟨signN_lt a b hb, sign_ret a b ha hb⟩) _⟩
  ·exact ⟨_, rfl, F16⟩
  ·exact ⟨_, rfl, F17⟩
  ·exact ⟨_, rfl, F18⟩
  ·exact ⟨_, rfl, F19⟩
  ·exact ⟨_, rfl, F20⟩
  ·exact ⟨_, rfl, FnOk.of_two (enters_of Tryz.func122 (by kernel_rfl) rfl) (fun a b ha hb => ⟨and_ltC a b ha, (and_ret a b ha hb).toT⟩) _⟩
  ·exact ⟨_, rfl, FnOk.of_two (enters_of Tryz.func123 (by kernel_rfl) rfl) (fun a b ha hb => ⟨or_ltC a b ha hb, (or_ret a b ha hb).toT⟩) _⟩
  ·exact ⟨_, rfl, FnOk.of_two (enters_of Tryz.func124 (by kernel_rfl) rfl) (fun a b ha hb => ⟨xor_ltC a b ha hb, (xor_ret a b ha hb).toT⟩) _⟩
  ·exact ⟨_, rfl, FnOk.of_two (enters_of Tryz.func125 (by kernel_rfl) rfl) (fun a b ha hb => ⟨byteV_w a b, (byte_ret a b ha hb).toT⟩) _⟩
  ·exact ⟨_, rfl, FnOk.of_two (enters_of Tryz.func126 (by kernel_rfl) rfl) (fun a b ha hb => ⟨wmod_lt _, shl_ret a b ha hb⟩) _⟩
  ·exact ⟨_, rfl, FnOk.of_two (enters_of Tryz.func127 (by kernel_rfl) rfl) (fun a b ha hb => ⟨div_lt b _ hb, shr_ret a b ha hb⟩) _⟩
  ·exact ⟨_, rfl, FnOk.of_two (enters_of Tryz.func128 (by kernel_rfl) rfl) (fun a b ha hb => ⟨sarN_lt a b hb, sar_ret a b ha hb⟩) _⟩
end
end Go.Proofs.YtnkhmgmganejmaaGreatDoor
