/- The reference's sign. -/
import Derived.Test.YtnlcllhjhbaigaaDoorRefV
namespace Go.Proofs.YtnlcllhjhbaigaaDoor
open Go Go.RowKit
attribute [local go_sem] Oper.semAt_some Grows

/-- The bits when those from a place up to another are one's. -/
def sgx (a p q k j : Nat) : Int := if p ≤ j ∧ j < k then (bt a q : Int) else (bt a j : Int)
theorem sgx_start (a p q j : Nat) : sgx a p q p j = (bt a j : Int) := if_neg (by omega)
theorem sgx_at (a p q k : Nat) (h : q < p) : sgx a p q k q = (bt a q : Int) := if_neg (by omega)
theorem sgx_step (a p q k : Nat) (h : p ≤ k) : (fun j => if j = k then (bt a q : Int) else sgx a p q k j) = sgx a p q (k + 1) := by
  funext j
  unfold sgx
  by_cases e : j = k
  · subst e; rw [if_pos rfl, if_pos (by omega)]
  · rw [if_neg e]
    by_cases e2 : p ≤ j ∧ j < k
    · rw [if_pos e2, if_pos (by omega)]
    · rw [if_neg e2, if_neg (by omega)]

set_option maxRecDepth 100000 in
set_option maxHeartbeats 4000000 in
theorem refSign_far (p a : Nat) (h1 : Ret Tryd.prog 45 #[.agg #[.int .u64 (lim p 0), .int .u64 (lim p 1), .int .u64 (lim p 2), .int .u64 (lim p 3)], .int .i64 31] (.int .i64 31)) :
    Ret Tryd.prog 29 #[.agg #[.int .u64 (lim p 0), .int .u64 (lim p 1), .int .u64 (lim p 2), .int .u64 (lim p 3)], .agg #[.int .u64 (lim a 0), .int .u64 (lim a 1), .int .u64 (lim a 2), .int .u64 (lim a 3)]] (.agg #[.int .u64 (lim a 0), .int .u64 (lim a 1), .int .u64 (lim a 2), .int .u64 (lim a 3)]) := by
  intro w
  have Hh1 := Lib.hid h1
  clear h1
  go_enter Tryd.func29, Tryd.ntmps29
  have LX := Has.new w 24 #[.int .u64 (lim p 0), .int .u64 (lim p 1), .int .u64 (lim p 2), .int .u64 (lim p 3)]
  have k1 := LX.cell 0 _ rfl
  have k2 := LX.cell 1 _ rfl
  have k3 := LX.cell 2 _ rfl
  have k4 := LX.cell 3 _ rfl
  have LX := LX.alloc (.cells #[.int .u64 (lim a 0), .int .u64 (lim a 1), .int .u64 (lim a 2), .int .u64 (lim a 3)] 24)
  have LY := Has.new (w.alloc (.cells #[.int .u64 (lim p 0), .int .u64 (lim p 1), .int .u64 (lim p 2), .int .u64 (lim p 3)] 24)) 24 #[.int .u64 (lim a 0), .int .u64 (lim a 1), .int .u64 (lim a 2), .int .u64 (lim a 3)]
  simp only [World.size_alloc] at LY
  have k5 := LX.cell 0 _ rfl
  have k6 := LX.cell 1 _ rfl
  have k7 := LX.cell 2 _ rfl
  have k8 := LX.cell 3 _ rfl
  have k9 := LY.cell 0 _ rfl
  have k10 := LY.cell 1 _ rfl
  have k11 := LY.cell 2 _ rfl
  have k12 := LY.cell 3 _ rfl
  have LX := LX.alloc (.cells #[.int .u64 0, .int .u64 0, .int .u64 0, .int .u64 0] 24)
  have LY := LY.alloc (.cells #[.int .u64 0, .int .u64 0, .int .u64 0, .int .u64 0] 24)
  have LR := Has.new ((w.alloc (.cells #[.int .u64 (lim p 0), .int .u64 (lim p 1), .int .u64 (lim p 2), .int .u64 (lim p 3)] 24)).alloc (.cells #[.int .u64 (lim a 0), .int .u64 (lim a 1), .int .u64 (lim a 2), .int .u64 (lim a 3)] 24)) 24 #[.int .u64 0, .int .u64 0, .int .u64 0, .int .u64 0]
  simp only [World.size_alloc] at LR
  have k13 := LX.cell 0 _ rfl
  have k14 := LX.cell 1 _ rfl
  have k15 := LX.cell 2 _ rfl
  have k16 := LX.cell 3 _ rfl
  have k17 := LY.cell 0 _ rfl
  have k18 := LY.cell 1 _ rfl
  have k19 := LY.cell 2 _ rfl
  have k20 := LY.cell 3 _ rfl
  have k21 := LR.cell 0 _ rfl
  have k22 := LR.cell 1 _ rfl
  have k23 := LR.cell 2 _ rfl
  have k24 := LR.cell 3 _ rfl
  have Q := (Below.refl w.heap.size w)
  have Q := Q.alloc Q.size (.cells #[.int .u64 (lim p 0), .int .u64 (lim p 1), .int .u64 (lim p 2), .int .u64 (lim p 3)] 24)
  have Q := Q.alloc Q.size (.cells #[.int .u64 (lim a 0), .int .u64 (lim a 1), .int .u64 (lim a 2), .int .u64 (lim a 3)] 24)
  have Q := Q.alloc Q.size (.cells #[.int .u64 0, .int .u64 0, .int .u64 0, .int .u64 0] 24)
  go_wp2_with fail
  clear k1 k2 k3 k4 k5 k6 k7 k8 k9 k10 k11 k12 k13 k14 k15 k16 k17 k18 k19 k20 k21 k22 k23 k24
  obtain ⟨W1, hW1⟩ : ∃ W1, (((w.alloc (.cells #[.int .u64 (lim p 0), .int .u64 (lim p 1), .int .u64 (lim p 2), .int .u64 (lim p 3)] 24)).alloc (.cells #[.int .u64 (lim a 0), .int .u64 (lim a 1), .int .u64 (lim a 2), .int .u64 (lim a 3)] 24)).alloc (.cells #[.int .u64 0, .int .u64 0, .int .u64 0, .int .u64 0] 24)) = W1 := ⟨_, rfl⟩
  rw [hW1] at LX LY LR Q ⊢
  clear hW1
  refine (Hh1.out _).mono ?_
  rintro e v25 ⟨rfl, q⟩
  have LX := LX.later q
  have LY := LY.later q
  have LR := LR.later q
  have Q := Q.trans (q.mono Q.size)
  clear q
  have r0 := LR.cell 0 _ rfl
  have z0 := LR.frozen 0
  have r1 := LR.cell 1 _ rfl
  have z1 := LR.frozen 1
  have r2 := LR.cell 2 _ rfl
  have z2 := LR.frozen 2
  have r3 := LR.cell 3 _ rfl
  have z3 := LR.frozen 3
  have k26 := LX.cell 0 _ rfl
  have k27 := LX.cell 1 _ rfl
  have k28 := LX.cell 2 _ rfl
  have k29 := LX.cell 3 _ rfl
  have k30 := LY.cell 0 _ rfl
  have k31 := LY.cell 1 _ rfl
  have k32 := LY.cell 2 _ rfl
  have k33 := LY.cell 3 _ rfl
  have HR := Lib.hid (((((LR.set 0 (.int .u64 (lim a 0))).set 1 (.int .u64 (lim a 1))).set 2 (.int .u64 (lim a 2))).set 3 (.int .u64 (lim a 3))))
  have HQ := Lib.hid (((((Q.setCell (p := ⟨w.heap.size + 1 + 1, 0, none⟩) (show w.heap.size ≤ _ by simp; first | done | omega) (.int .u64 (lim a 0))).setCell (p := ⟨w.heap.size + 1 + 1, 1, none⟩) (show w.heap.size ≤ _ by simp; first | done | omega) (.int .u64 (lim a 1))).setCell (p := ⟨w.heap.size + 1 + 1, 2, none⟩) (show w.heap.size ≤ _ by simp; first | done | omega) (.int .u64 (lim a 2))).setCell (p := ⟨w.heap.size + 1 + 1, 3, none⟩) (show w.heap.size ≤ _ by simp; first | done | omega) (.int .u64 (lim a 3))))
  clear Q LX LY LR
  go_wp2
  refine bodyPost_ret (results_word (m := lim a) rfl rfl HR.out) rfl ⟨rfl, HQ.out⟩

set_option maxRecDepth 100000 in
set_option maxHeartbeats 4000000 in
theorem refSign_in (p a R n : Nat) (h1 : Ret Tryd.prog 45 #[.agg #[.int .u64 (lim p 0), .int .u64 (lim p 1), .int .u64 (lim p 2), .int .u64 (lim p 3)], .int .i64 31] (.int .i64 (n : Int))) (hn : n < 31) (hR : W256 R) (hS : ∀ j, j < 256 → sgx a (8 * n + 8) (8 * n + 7) 256 j = (bt R j : Int)) :
    Ret Tryd.prog 29 #[.agg #[.int .u64 (lim p 0), .int .u64 (lim p 1), .int .u64 (lim p 2), .int .u64 (lim p 3)], .agg #[.int .u64 (lim a 0), .int .u64 (lim a 1), .int .u64 (lim a 2), .int .u64 (lim a 3)]] (.agg #[.int .u64 (lim R 0), .int .u64 (lim R 1), .int .u64 (lim R 2), .int .u64 (lim R 3)]) := by
  intro w
  have Hh1 := Lib.hid h1
  clear h1
  have HA := Lib.hid (bits_any a)
  have HF := Lib.hid (fromBits_any R hR)
  have HS := Lib.hid hS
  unfold wv at HA HF
  have hn0 : (0 : Int) ≤ (n : Int) := by omega
  have hn1 : (n : Int) < 31 := by omega
  have hne : ¬ (n : Int) = 31 := by omega
  obtain ⟨P, hP⟩ : ∃ P, 8 * n + 8 = P := ⟨_, rfl⟩
  obtain ⟨q, hq⟩ : ∃ q, 8 * n + 7 = q := ⟨_, rfl⟩
  rw [hP, hq] at HS
  have hpI : 8 * (n : Int) + 8 = (P : Int) := by omega
  have hqI : 8 * (n : Int) + 7 = (q : Int) := by omega
  have hq2 : q < P := by omega
  have hp2 : P ≤ 256 := by omega
  have hP0 : (0 : Int) ≤ (P : Int) := by omega
  have hP1 : (P : Int) ≤ 256 := by omega
  have hq0 : (0 : Int) ≤ (q : Int) := by omega
  have hq1 : (q : Int) < 256 := by omega
  have HPQ := Lib.hid (And.intro hq2 hp2)
  clear hR hS hP hq hn hq2 hp2
  go_enter Tryd.func29, Tryd.ntmps29
  have LX := Has.new w 24 #[.int .u64 (lim p 0), .int .u64 (lim p 1), .int .u64 (lim p 2), .int .u64 (lim p 3)]
  have k1 := LX.cell 0 _ rfl
  have k2 := LX.cell 1 _ rfl
  have k3 := LX.cell 2 _ rfl
  have k4 := LX.cell 3 _ rfl
  have LX := LX.alloc (.cells #[.int .u64 (lim a 0), .int .u64 (lim a 1), .int .u64 (lim a 2), .int .u64 (lim a 3)] 24)
  have LY := Has.new (w.alloc (.cells #[.int .u64 (lim p 0), .int .u64 (lim p 1), .int .u64 (lim p 2), .int .u64 (lim p 3)] 24)) 24 #[.int .u64 (lim a 0), .int .u64 (lim a 1), .int .u64 (lim a 2), .int .u64 (lim a 3)]
  simp only [World.size_alloc] at LY
  have k5 := LX.cell 0 _ rfl
  have k6 := LX.cell 1 _ rfl
  have k7 := LX.cell 2 _ rfl
  have k8 := LX.cell 3 _ rfl
  have k9 := LY.cell 0 _ rfl
  have k10 := LY.cell 1 _ rfl
  have k11 := LY.cell 2 _ rfl
  have k12 := LY.cell 3 _ rfl
  have LX := LX.alloc (.cells #[.int .u64 0, .int .u64 0, .int .u64 0, .int .u64 0] 24)
  have LY := LY.alloc (.cells #[.int .u64 0, .int .u64 0, .int .u64 0, .int .u64 0] 24)
  have LR := Has.new ((w.alloc (.cells #[.int .u64 (lim p 0), .int .u64 (lim p 1), .int .u64 (lim p 2), .int .u64 (lim p 3)] 24)).alloc (.cells #[.int .u64 (lim a 0), .int .u64 (lim a 1), .int .u64 (lim a 2), .int .u64 (lim a 3)] 24)) 24 #[.int .u64 0, .int .u64 0, .int .u64 0, .int .u64 0]
  simp only [World.size_alloc] at LR
  have k13 := LX.cell 0 _ rfl
  have k14 := LX.cell 1 _ rfl
  have k15 := LX.cell 2 _ rfl
  have k16 := LX.cell 3 _ rfl
  have k17 := LY.cell 0 _ rfl
  have k18 := LY.cell 1 _ rfl
  have k19 := LY.cell 2 _ rfl
  have k20 := LY.cell 3 _ rfl
  have k21 := LR.cell 0 _ rfl
  have k22 := LR.cell 1 _ rfl
  have k23 := LR.cell 2 _ rfl
  have k24 := LR.cell 3 _ rfl
  have Q := (Below.refl w.heap.size w)
  have Q := Q.alloc Q.size (.cells #[.int .u64 (lim p 0), .int .u64 (lim p 1), .int .u64 (lim p 2), .int .u64 (lim p 3)] 24)
  have Q := Q.alloc Q.size (.cells #[.int .u64 (lim a 0), .int .u64 (lim a 1), .int .u64 (lim a 2), .int .u64 (lim a 3)] 24)
  have Q := Q.alloc Q.size (.cells #[.int .u64 0, .int .u64 0, .int .u64 0, .int .u64 0] 24)
  go_wp2_with fail
  clear k1 k2 k3 k4 k5 k6 k7 k8 k9 k10 k11 k12 k13 k14 k15 k16 k17 k18 k19 k20 k21 k22 k23 k24
  obtain ⟨W1, hW1⟩ : ∃ W1, (((w.alloc (.cells #[.int .u64 (lim p 0), .int .u64 (lim p 1), .int .u64 (lim p 2), .int .u64 (lim p 3)] 24)).alloc (.cells #[.int .u64 (lim a 0), .int .u64 (lim a 1), .int .u64 (lim a 2), .int .u64 (lim a 3)] 24)).alloc (.cells #[.int .u64 0, .int .u64 0, .int .u64 0, .int .u64 0] 24)) = W1 := ⟨_, rfl⟩
  rw [hW1] at LX LY LR Q ⊢
  clear hW1
  refine (Hh1.out _).mono ?_
  rintro e v25 ⟨rfl, q⟩
  have LX := LX.later q
  have LY := LY.later q
  have LR := LR.later q
  have Q := Q.trans (q.mono Q.size)
  clear q
  clear LX
  have k26 := LY.cell 0 _ rfl
  have k27 := LY.cell 1 _ rfl
  have k28 := LY.cell 2 _ rfl
  have k29 := LY.cell 3 _ rfl
  have k30 := LR.cell 0 _ rfl
  have k31 := LR.cell 1 _ rfl
  have k32 := LR.cell 2 _ rfl
  have k33 := LR.cell 3 _ rfl
  go_wp2_with fail
  clear k26 k27 k28 k29 k30 k31 k32 k33
  have aR := LR.lt
  have aW := Q.size
  refine (HA.out _).mono ?_
  rintro e v34 ⟨g, cap, rfl, hg, hI, q⟩
  have LY := LY.later q
  have LR := LR.later q
  have Q := Q.trans (q.mono Q.size)
  clear q
  have gR : w.heap.size + 1 + 1 ≠ g := by omega
  have hwg : w.heap.size ≤ g := by omega
  clear hg HA LY aR aW
  go_wp2
  go_loopw [7] (fun i wr => ∃ k : Nat, P ≤ k ∧ k ≤ 256 ∧ i = .int .i64 (k : Int) ∧ IntsAt wr g 256 (sgx a P q k) ∧ Has wr (w.heap.size + 1 + 1) 24 #[.int .u64 0, .int .u64 0, .int .u64 0, .int .u64 0] ∧ Below w.heap.size w wr) (fun i _ => 256 - (intOf i).toNat)
  case atStart => exact ⟨P, Nat.le_refl _, HPQ.out.2, by simp [hpI], hI.congr (fun j _ => (sgx_start a P q j).symm), LR, Q⟩
  case round =>
    clear hI LR Q
    obtain ⟨k, hpk, hk, rfl, hI, LR, Q⟩ := hrel
    by_cases hlt : k < 256
    · have hk0 : (0 : Int) ≤ (k : Int) := by omega
      have hk1 : (k : Int) < 256 := by omega
      have HK := Lib.hid (And.intro hpk hlt)
      have HV := Lib.hid (sgx_step a P q k hpk)
      have cq : wr.cell? ⟨g, q, none⟩ = some (.int .i64 (bt a q : Int)) := by rw [hI.cell (by have := HPQ.out; omega), sgx_at a P q k HPQ.out.1]
      have ck := hI.cell hlt
      have fk := hI.frozen k
      have N1 := hI.set hlt (bt a q : Int)
      rw [HV.out] at N1
      have N1 := Lib.hid N1
      have N2 := Lib.hid (LR.other (p := ⟨g, k, none⟩) gR (.int .i64 (bt a q : Int)))
      have N3 := Lib.hid (Q.setCell (p := ⟨g, k, none⟩) hwg (.int .i64 (bt a q : Int)))
      clear hI LR Q hk hpk hlt HF HS HV
      go_wp2
      go_roundw
      case rel => exact ⟨k + 1, by have := HK.out; omega, by have := HK.out; omega, by simp, N1.out, N2.out, N3.out⟩
      case measure => have := HK.out; simp [intOf]; omega
    · obtain rfl : k = 256 := by omega
      have hI := hI.congr (fun j hj => HS.out j hj)
      clear hk hlt hpk HS
      go_wp2_with fail
      refine (HF.out _ _ _ hI).mono ?_
      rintro e v9 ⟨rfl, q⟩
      have LR := LR.later q
      have Q := Q.trans (q.mono Q.size)
      clear q hI HF
      have r0 := LR.cell 0 _ rfl
      have z0 := LR.frozen 0
      have r1 := LR.cell 1 _ rfl
      have z1 := LR.frozen 1
      have r2 := LR.cell 2 _ rfl
      have z2 := LR.frozen 2
      have r3 := LR.cell 3 _ rfl
      have z3 := LR.frozen 3
      have HR := Lib.hid (((((LR.set 0 (.int .u64 (lim R 0))).set 1 (.int .u64 (lim R 1))).set 2 (.int .u64 (lim R 2))).set 3 (.int .u64 (lim R 3))))
      have HQ := Lib.hid (((((Q.setCell (p := ⟨w.heap.size + 1 + 1, 0, none⟩) (show w.heap.size ≤ w.heap.size + 1 + 1 by omega) (.int .u64 (lim R 0))).setCell (p := ⟨w.heap.size + 1 + 1, 1, none⟩) (show w.heap.size ≤ w.heap.size + 1 + 1 by omega) (.int .u64 (lim R 1))).setCell (p := ⟨w.heap.size + 1 + 1, 2, none⟩) (show w.heap.size ≤ w.heap.size + 1 + 1 by omega) (.int .u64 (lim R 2))).setCell (p := ⟨w.heap.size + 1 + 1, 3, none⟩) (show w.heap.size ≤ w.heap.size + 1 + 1 by omega) (.int .u64 (lim R 3))))
      clear Q LR
      go_wp2
      refine bodyPost_ret (results_word (m := lim R) rfl rfl HR.out) rfl ⟨rfl, HQ.out⟩

end Go.Proofs.YtnlcllhjhbaigaaDoor
