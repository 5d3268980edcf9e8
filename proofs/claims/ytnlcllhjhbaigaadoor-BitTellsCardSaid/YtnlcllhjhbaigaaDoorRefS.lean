/- The reference's two words bit by bit. -/
import Derived.Test.YtnlcllhjhbaigaaDoorRefI
import Derived.Test.YtnlcllhjhbaigaaDoorRefK
import Derived.Test.YtnlcllhjhbaigaaDoorBBytM
namespace Go.Proofs.YtnlcllhjhbaigaaDoor
open Go Go.RowKit
attribute [local go_sem] Oper.semAt_some Grows

/-- The bits when those below a place are another's. -/
def dx (a R k j : Nat) : Int := if j < k then (bt R j : Int) else (bt a j : Int)
theorem dx_zero (a R j : Nat) : dx a R 0 j = (bt a j : Int) := if_neg (Nat.not_lt_zero j)
theorem dx_top (a R j : Nat) (h : j < 256) : dx a R 256 j = (bt R j : Int) := if_pos h
theorem dx_at (a R k : Nat) : dx a R k k = (bt a k : Int) := if_neg (Nat.lt_irrefl k)
theorem dx_step (a R k : Nat) : (fun j => if j = k then (bt R k : Int) else dx a R k j) = dx a R (k + 1) := by
  funext j
  unfold dx
  by_cases e : j = k
  · subst e; rw [if_pos rfl, if_pos (Nat.lt_succ_self j)]
  · rw [if_neg e]
    by_cases e2 : j < k
    · rw [if_pos e2, if_pos (by omega)]
    · rw [if_neg e2, if_neg (by omega)]


set_option maxRecDepth 100000 in
set_option maxHeartbeats 4000000 in
theorem refBoth_ret (a b R : Nat) (t : Nat → Int) (hR : W256 R) (hT : ∀ j, j < 256 → t (2 * bt a j + bt b j) = (bt R j : Int)) :
    Ret Tryd.prog 35 #[wv a, wv b, .agg #[.int .i64 (t 0), .int .i64 (t 1), .int .i64 (t 2), .int .i64 (t 3)]] (wv R) := by
  intro w
  have HA := Lib.hid (bits_any a)
  have HB := Lib.hid (bits_any b)
  have HF := Lib.hid (fromBits_any R hR)
  have HT := Lib.hid hT
  clear hR hT
  unfold wv at HA HB HF ⊢
  go_enter Tryd.func35, Tryd.ntmps35
  have LX := Has.new w 24 #[.int .u64 (lim a 0), .int .u64 (lim a 1), .int .u64 (lim a 2), .int .u64 (lim a 3)]
  have k1 := LX.cell 0 _ rfl
  have k2 := LX.cell 1 _ rfl
  have k3 := LX.cell 2 _ rfl
  have k4 := LX.cell 3 _ rfl
  have LX := LX.alloc (.cells #[.int .u64 (lim b 0), .int .u64 (lim b 1), .int .u64 (lim b 2), .int .u64 (lim b 3)] 24)
  have LY := Has.new (w.alloc (.cells #[.int .u64 (lim a 0), .int .u64 (lim a 1), .int .u64 (lim a 2), .int .u64 (lim a 3)] 24)) 24 #[.int .u64 (lim b 0), .int .u64 (lim b 1), .int .u64 (lim b 2), .int .u64 (lim b 3)]
  simp only [World.size_alloc] at LY
  have k5 := LX.cell 0 _ rfl
  have k6 := LX.cell 1 _ rfl
  have k7 := LX.cell 2 _ rfl
  have k8 := LX.cell 3 _ rfl
  have k9 := LY.cell 0 _ rfl
  have k10 := LY.cell 1 _ rfl
  have k11 := LY.cell 2 _ rfl
  have k12 := LY.cell 3 _ rfl
  have LX := LX.alloc (.cells #[.int .i64 (t 0), .int .i64 (t 1), .int .i64 (t 2), .int .i64 (t 3)] 40)
  have LY := LY.alloc (.cells #[.int .i64 (t 0), .int .i64 (t 1), .int .i64 (t 2), .int .i64 (t 3)] 40)
  have LT := Has.new ((w.alloc (.cells #[.int .u64 (lim a 0), .int .u64 (lim a 1), .int .u64 (lim a 2), .int .u64 (lim a 3)] 24)).alloc (.cells #[.int .u64 (lim b 0), .int .u64 (lim b 1), .int .u64 (lim b 2), .int .u64 (lim b 3)] 24)) 40 #[.int .i64 (t 0), .int .i64 (t 1), .int .i64 (t 2), .int .i64 (t 3)]
  simp only [World.size_alloc] at LT
  have k13 := LX.cell 0 _ rfl
  have k14 := LX.cell 1 _ rfl
  have k15 := LX.cell 2 _ rfl
  have k16 := LX.cell 3 _ rfl
  have k17 := LY.cell 0 _ rfl
  have k18 := LY.cell 1 _ rfl
  have k19 := LY.cell 2 _ rfl
  have k20 := LY.cell 3 _ rfl
  have k21 := LT.cell 0 _ rfl
  have k22 := LT.cell 1 _ rfl
  have k23 := LT.cell 2 _ rfl
  have k24 := LT.cell 3 _ rfl
  have LX := LX.alloc (.cells #[.int .u64 0, .int .u64 0, .int .u64 0, .int .u64 0] 24)
  have LY := LY.alloc (.cells #[.int .u64 0, .int .u64 0, .int .u64 0, .int .u64 0] 24)
  have LT := LT.alloc (.cells #[.int .u64 0, .int .u64 0, .int .u64 0, .int .u64 0] 24)
  have LR := Has.new (((w.alloc (.cells #[.int .u64 (lim a 0), .int .u64 (lim a 1), .int .u64 (lim a 2), .int .u64 (lim a 3)] 24)).alloc (.cells #[.int .u64 (lim b 0), .int .u64 (lim b 1), .int .u64 (lim b 2), .int .u64 (lim b 3)] 24)).alloc (.cells #[.int .i64 (t 0), .int .i64 (t 1), .int .i64 (t 2), .int .i64 (t 3)] 40)) 24 #[.int .u64 0, .int .u64 0, .int .u64 0, .int .u64 0]
  simp only [World.size_alloc] at LR
  have k25 := LX.cell 0 _ rfl
  have k26 := LX.cell 1 _ rfl
  have k27 := LX.cell 2 _ rfl
  have k28 := LX.cell 3 _ rfl
  have k29 := LY.cell 0 _ rfl
  have k30 := LY.cell 1 _ rfl
  have k31 := LY.cell 2 _ rfl
  have k32 := LY.cell 3 _ rfl
  have k33 := LT.cell 0 _ rfl
  have k34 := LT.cell 1 _ rfl
  have k35 := LT.cell 2 _ rfl
  have k36 := LT.cell 3 _ rfl
  have k37 := LR.cell 0 _ rfl
  have k38 := LR.cell 1 _ rfl
  have k39 := LR.cell 2 _ rfl
  have k40 := LR.cell 3 _ rfl
  have Q := (Below.refl w.heap.size w)
  have Q := Q.alloc Q.size (.cells #[.int .u64 (lim a 0), .int .u64 (lim a 1), .int .u64 (lim a 2), .int .u64 (lim a 3)] 24)
  have Q := Q.alloc Q.size (.cells #[.int .u64 (lim b 0), .int .u64 (lim b 1), .int .u64 (lim b 2), .int .u64 (lim b 3)] 24)
  have Q := Q.alloc Q.size (.cells #[.int .i64 (t 0), .int .i64 (t 1), .int .i64 (t 2), .int .i64 (t 3)] 40)
  have Q := Q.alloc Q.size (.cells #[.int .u64 0, .int .u64 0, .int .u64 0, .int .u64 0] 24)
  go_wp2_with fail
  clear k1 k2 k3 k4 k5 k6 k7 k8 k9 k10 k11 k12 k13 k14 k15 k16 k17 k18 k19 k20 k21 k22 k23 k24 k25 k26 k27 k28 k29 k30 k31 k32 k33 k34 k35 k36 k37 k38 k39 k40
  obtain ⟨W1, hW1⟩ : ∃ W1, ((((w.alloc (.cells #[.int .u64 (lim a 0), .int .u64 (lim a 1), .int .u64 (lim a 2), .int .u64 (lim a 3)] 24)).alloc (.cells #[.int .u64 (lim b 0), .int .u64 (lim b 1), .int .u64 (lim b 2), .int .u64 (lim b 3)] 24)).alloc (.cells #[.int .i64 (t 0), .int .i64 (t 1), .int .i64 (t 2), .int .i64 (t 3)] 40)).alloc (.cells #[.int .u64 0, .int .u64 0, .int .u64 0, .int .u64 0] 24)) = W1 := ⟨_, rfl⟩
  rw [hW1] at LX LY LT LR Q ⊢
  clear hW1
  have aT := LT.lt
  have aR := LR.lt
  have aW := Q.size
  refine (HA.out _).mono ?_
  rintro e v41 ⟨g, cap, rfl, hg, hI, q⟩
  have LX := LX.later q
  have LY := LY.later q
  have LT := LT.later q
  have LR := LR.later q
  have Q := Q.trans (q.mono Q.size)
  clear q
  have gI := hI.lt
  have gT : w.heap.size + 1 + 1 ≠ g := by omega
  have gR : w.heap.size + 1 + 1 + 1 ≠ g := by omega
  have hwg : w.heap.size ≤ g := by omega
  clear hg HA LX aT aR aW
  have k42 := LY.cell 0 _ rfl
  have k43 := LY.cell 1 _ rfl
  have k44 := LY.cell 2 _ rfl
  have k45 := LY.cell 3 _ rfl
  have k46 := LT.cell 0 _ rfl
  have k47 := LT.cell 1 _ rfl
  have k48 := LT.cell 2 _ rfl
  have k49 := LT.cell 3 _ rfl
  have k50 := LR.cell 0 _ rfl
  have k51 := LR.cell 1 _ rfl
  have k52 := LR.cell 2 _ rfl
  have k53 := LR.cell 3 _ rfl
  go_wp2_with fail
  clear k42 k43 k44 k45 k46 k47 k48 k49 k50 k51 k52 k53
  refine (HB.out _).mono ?_
  rintro e v54 ⟨g2, cap2, rfl, hg2, hJ, q⟩
  have LY := LY.later q
  have LT := LT.later q
  have LR := LR.later q
  have Q := Q.trans (q.mono Q.size)
  have hI := hI.later q
  clear q
  have gg : g2 ≠ g := by omega
  clear hg2 HB LY gI
  go_wp2
  go_loopw [9] (fun i wr => ∃ k : Nat, k ≤ 256 ∧ i = .int .i64 (k : Int) ∧ IntsAt wr g 256 (dx a R k) ∧ IntsAt wr g2 256 (fun j => (bt b j : Int)) ∧ Has wr (w.heap.size + 1 + 1) 40 #[.int .i64 (t 0), .int .i64 (t 1), .int .i64 (t 2), .int .i64 (t 3)] ∧ Has wr (w.heap.size + 1 + 1 + 1) 24 #[.int .u64 0, .int .u64 0, .int .u64 0, .int .u64 0] ∧ Below w.heap.size w wr) (fun i _ => 256 - (intOf i).toNat)
  case atStart => exact ⟨0, by omega, rfl, hI.congr (fun j _ => (dx_zero a R j).symm), hJ, LT, LR, Q⟩
  case round =>
    clear hI hJ LT LR Q
    obtain ⟨k, hk, rfl, hI, hJ, LT, LR, Q⟩ := hrel
    by_cases hlt : k < 256
    · have hk0 : (0 : Int) ≤ (k : Int) := by omega
      have hk1 : (k : Int) < 256 := by omega
      have HK := Lib.hid hlt
      have hTk := HT.out k hlt
      have cx : ∀ y : Ext wr, y.w.cell? ⟨g, k, none⟩ = some (.int .i64 (bt a k : Int)) := fun y => by rw [(hI.later y.below).cell HK.out, dx_at]
      have cy : ∀ y : Ext wr, y.w.cell? ⟨g2, k, none⟩ = some (.int .i64 (bt b k : Int)) := fun y => (hJ.later y.below).cell HK.out
      have ha2 : bt a k = 0 ∨ bt a k = 1 := by have := bt_lt a k; omega
      have hb2 : bt b k = 0 ∨ bt b k = 1 := by have := bt_lt b k; omega
      have ct0 : ∀ y : Ext wr, y.w.cell? ⟨w.heap.size + 1 + 1, 0, none⟩ = some (.int .i64 (t 0)) := fun y => (LT.later y.below).cell 0 _ rfl
      have ct1 : ∀ y : Ext wr, y.w.cell? ⟨w.heap.size + 1 + 1, 1, none⟩ = some (.int .i64 (t 1)) := fun y => (LT.later y.below).cell 1 _ rfl
      have ct2 : ∀ y : Ext wr, y.w.cell? ⟨w.heap.size + 1 + 1, 2, none⟩ = some (.int .i64 (t 2)) := fun y => (LT.later y.below).cell 2 _ rfl
      have ct3 : ∀ y : Ext wr, y.w.cell? ⟨w.heap.size + 1 + 1, 3, none⟩ = some (.int .i64 (t 3)) := fun y => (LT.later y.below).cell 3 _ rfl
      have hmx : Tryd.prog.follows .mixedOrders = true := by kernel_rfl
      clear hk hlt HF HT
      rcases ha2 with ea | ea <;> rcases hb2 with eb | eb
      · rw [ea] at cx
        rw [eb] at cy
        have hv : t 0 = (bt R k : Int) := by rw [ea, eb] at hTk; exact hTk
        clear hTk ea eb
        go_wp2
        refine wp_region_mix (C := Grows wr) [some true, some true, some true, some true, some true, some true, some true, some true, some true, some true, some true, some true, some true, some true, some true, none] hmx (by kernel_rfl) (by kernel_rfl) (grows_refl wr) ?_
        simp only [headOf, tailOf]
        repeat (go_big_quiet_step (fail))
        refine wpQuiet_nil ?_
        rintro _ ⟨y, rfl⟩
        clear cx cy ct0 ct1 ct2 ct3
        have fg := (hI.later y.below).frozen k
        have cg := (hI.later y.below).cell HK.out
        have N1 := (hI.later y.below).set HK.out (bt R k : Int)
        rw [dx_step a R k] at N1
        have N1 := Lib.hid N1
        have N2 := Lib.hid ((hJ.later y.below).other (p := ⟨g, k, none⟩) gg (.int .i64 (bt R k : Int)))
        have N3 := Lib.hid ((LT.later y.below).other (p := ⟨g, k, none⟩) gT (.int .i64 (bt R k : Int)))
        have N4 := Lib.hid ((LR.later y.below).other (p := ⟨g, k, none⟩) gR (.int .i64 (bt R k : Int)))
        have N5 := Lib.hid ((Q.trans (y.below.mono Q.size)).setCell (p := ⟨g, k, none⟩) hwg (.int .i64 (bt R k : Int)))
        clear hI hJ LT LR Q
        go_wp2
        rw [calmPost_normal]
        go_wp2
        go_roundw
        case rel => exact ⟨k + 1, by have := HK.out; omega, by simp, N1.out, N2.out, N3.out, N4.out, N5.out⟩
        case measure => have := HK.out; simp [intOf]; omega
      · rw [ea] at cx
        rw [eb] at cy
        have hv : t 1 = (bt R k : Int) := by rw [ea, eb] at hTk; exact hTk
        clear hTk ea eb
        go_wp2
        refine wp_region_mix (C := Grows wr) [some true, some true, some true, some true, some true, some true, some true, some true, some true, some true, some true, some true, some true, some true, some true, none] hmx (by kernel_rfl) (by kernel_rfl) (grows_refl wr) ?_
        simp only [headOf, tailOf]
        repeat (go_big_quiet_step (fail))
        refine wpQuiet_nil ?_
        rintro _ ⟨y, rfl⟩
        clear cx cy ct0 ct1 ct2 ct3
        have fg := (hI.later y.below).frozen k
        have cg := (hI.later y.below).cell HK.out
        have N1 := (hI.later y.below).set HK.out (bt R k : Int)
        rw [dx_step a R k] at N1
        have N1 := Lib.hid N1
        have N2 := Lib.hid ((hJ.later y.below).other (p := ⟨g, k, none⟩) gg (.int .i64 (bt R k : Int)))
        have N3 := Lib.hid ((LT.later y.below).other (p := ⟨g, k, none⟩) gT (.int .i64 (bt R k : Int)))
        have N4 := Lib.hid ((LR.later y.below).other (p := ⟨g, k, none⟩) gR (.int .i64 (bt R k : Int)))
        have N5 := Lib.hid ((Q.trans (y.below.mono Q.size)).setCell (p := ⟨g, k, none⟩) hwg (.int .i64 (bt R k : Int)))
        clear hI hJ LT LR Q
        go_wp2
        rw [calmPost_normal]
        go_wp2
        go_roundw
        case rel => exact ⟨k + 1, by have := HK.out; omega, by simp, N1.out, N2.out, N3.out, N4.out, N5.out⟩
        case measure => have := HK.out; simp [intOf]; omega
      · rw [ea] at cx
        rw [eb] at cy
        have hv : t 2 = (bt R k : Int) := by rw [ea, eb] at hTk; exact hTk
        clear hTk ea eb
        go_wp2
        refine wp_region_mix (C := Grows wr) [some true, some true, some true, some true, some true, some true, some true, some true, some true, some true, some true, some true, some true, some true, some true, none] hmx (by kernel_rfl) (by kernel_rfl) (grows_refl wr) ?_
        simp only [headOf, tailOf]
        repeat (go_big_quiet_step (fail))
        refine wpQuiet_nil ?_
        rintro _ ⟨y, rfl⟩
        clear cx cy ct0 ct1 ct2 ct3
        have fg := (hI.later y.below).frozen k
        have cg := (hI.later y.below).cell HK.out
        have N1 := (hI.later y.below).set HK.out (bt R k : Int)
        rw [dx_step a R k] at N1
        have N1 := Lib.hid N1
        have N2 := Lib.hid ((hJ.later y.below).other (p := ⟨g, k, none⟩) gg (.int .i64 (bt R k : Int)))
        have N3 := Lib.hid ((LT.later y.below).other (p := ⟨g, k, none⟩) gT (.int .i64 (bt R k : Int)))
        have N4 := Lib.hid ((LR.later y.below).other (p := ⟨g, k, none⟩) gR (.int .i64 (bt R k : Int)))
        have N5 := Lib.hid ((Q.trans (y.below.mono Q.size)).setCell (p := ⟨g, k, none⟩) hwg (.int .i64 (bt R k : Int)))
        clear hI hJ LT LR Q
        go_wp2
        rw [calmPost_normal]
        go_wp2
        go_roundw
        case rel => exact ⟨k + 1, by have := HK.out; omega, by simp, N1.out, N2.out, N3.out, N4.out, N5.out⟩
        case measure => have := HK.out; simp [intOf]; omega
      · rw [ea] at cx
        rw [eb] at cy
        have hv : t 3 = (bt R k : Int) := by rw [ea, eb] at hTk; exact hTk
        clear hTk ea eb
        go_wp2
        refine wp_region_mix (C := Grows wr) [some true, some true, some true, some true, some true, some true, some true, some true, some true, some true, some true, some true, some true, some true, some true, none] hmx (by kernel_rfl) (by kernel_rfl) (grows_refl wr) ?_
        simp only [headOf, tailOf]
        repeat (go_big_quiet_step (fail))
        refine wpQuiet_nil ?_
        rintro _ ⟨y, rfl⟩
        clear cx cy ct0 ct1 ct2 ct3
        have fg := (hI.later y.below).frozen k
        have cg := (hI.later y.below).cell HK.out
        have N1 := (hI.later y.below).set HK.out (bt R k : Int)
        rw [dx_step a R k] at N1
        have N1 := Lib.hid N1
        have N2 := Lib.hid ((hJ.later y.below).other (p := ⟨g, k, none⟩) gg (.int .i64 (bt R k : Int)))
        have N3 := Lib.hid ((LT.later y.below).other (p := ⟨g, k, none⟩) gT (.int .i64 (bt R k : Int)))
        have N4 := Lib.hid ((LR.later y.below).other (p := ⟨g, k, none⟩) gR (.int .i64 (bt R k : Int)))
        have N5 := Lib.hid ((Q.trans (y.below.mono Q.size)).setCell (p := ⟨g, k, none⟩) hwg (.int .i64 (bt R k : Int)))
        clear hI hJ LT LR Q
        go_wp2
        rw [calmPost_normal]
        go_wp2
        go_roundw
        case rel => exact ⟨k + 1, by have := HK.out; omega, by simp, N1.out, N2.out, N3.out, N4.out, N5.out⟩
        case measure => have := HK.out; simp [intOf]; omega
    · obtain rfl : k = 256 := by omega
      have hI := hI.congr (fun j hj => dx_top a R j hj)
      clear hk hlt HT hJ LT
      go_wp2_with fail
      refine (HF.out _ _ _ hI).mono ?_
      rintro e v9 ⟨rfl, q⟩
      have LR := LR.later q
      have Q := Q.trans (q.mono Q.size)
      clear q hI HF
      have r0 := LR.cell 0 _ rfl
      have z0 := LR.frozen 0
      have r1 := LR.cell 1 _ rfl
      have z1 := LR.frozen 1
      have r2 := LR.cell 2 _ rfl
      have z2 := LR.frozen 2
      have r3 := LR.cell 3 _ rfl
      have z3 := LR.frozen 3
      have HR := Lib.hid (((((LR.set 0 (.int .u64 (lim R 0))).set 1 (.int .u64 (lim R 1))).set 2 (.int .u64 (lim R 2))).set 3 (.int .u64 (lim R 3))))
      have HQ := Lib.hid (((((Q.setCell (p := ⟨w.heap.size + 1 + 1 + 1, 0, none⟩) (show w.heap.size ≤ w.heap.size + 1 + 1 + 1 by omega) (.int .u64 (lim R 0))).setCell (p := ⟨w.heap.size + 1 + 1 + 1, 1, none⟩) (show w.heap.size ≤ w.heap.size + 1 + 1 + 1 by omega) (.int .u64 (lim R 1))).setCell (p := ⟨w.heap.size + 1 + 1 + 1, 2, none⟩) (show w.heap.size ≤ w.heap.size + 1 + 1 + 1 by omega) (.int .u64 (lim R 2))).setCell (p := ⟨w.heap.size + 1 + 1 + 1, 3, none⟩) (show w.heap.size ≤ w.heap.size + 1 + 1 + 1 by omega) (.int .u64 (lim R 3))))
      clear Q LR
      go_wp2
      refine bodyPost_ret (results_word (m := lim R) rfl rfl HR.out) rfl ⟨rfl, HQ.out⟩

theorem bt_test (a j : Nat) : bt a j = (a.testBit j).toNat := by
  unfold bt
  rw [Nat.testBit_eq_decide_div_mod_eq]
  rcases (show a / 2 ^ j % 2 = 0 ∨ a / 2 ^ j % 2 = 1 by omega) with h | h <;> simp [h]
def tAnd (j : Nat) : Int := if j = 3 then 1 else 0
def tOr (j : Nat) : Int := if j = 0 then 0 else 1
def tXor (j : Nat) : Int := if j = 1 ∨ j = 2 then 1 else 0
def tNot (j : Nat) : Int := if j < 2 then 1 else 0

set_option maxRecDepth 100000 in
set_option maxHeartbeats 4000000 in
theorem refAnd_walk (a b r : Nat) (h : Ret Tryd.prog 35 #[.agg #[.int .u64 (lim a 0), .int .u64 (lim a 1), .int .u64 (lim a 2), .int .u64 (lim a 3)], .agg #[.int .u64 (lim b 0), .int .u64 (lim b 1), .int .u64 (lim b 2), .int .u64 (lim b 3)], .agg #[.int .i64 0, .int .i64 0, .int .i64 0, .int .i64 1]] (.agg #[.int .u64 (lim r 0), .int .u64 (lim r 1), .int .u64 (lim r 2), .int .u64 (lim r 3)])) :
    Ret Tryd.prog 9 #[.agg #[.int .u64 (lim a 0), .int .u64 (lim a 1), .int .u64 (lim a 2), .int .u64 (lim a 3)], .agg #[.int .u64 (lim b 0), .int .u64 (lim b 1), .int .u64 (lim b 2), .int .u64 (lim b 3)]] (.agg #[.int .u64 (lim r 0), .int .u64 (lim r 1), .int .u64 (lim r 2), .int .u64 (lim r 3)]) := by
  intro w
  have Hh := Lib.hid h
  clear h
  go_enter Tryd.func9, Tryd.ntmps9
  have LX := Has.new w 24 #[.int .u64 (lim a 0), .int .u64 (lim a 1), .int .u64 (lim a 2), .int .u64 (lim a 3)]
  have k1 := LX.cell 0 _ rfl
  have k2 := LX.cell 1 _ rfl
  have k3 := LX.cell 2 _ rfl
  have k4 := LX.cell 3 _ rfl
  have LX := LX.alloc (.cells #[.int .u64 (lim b 0), .int .u64 (lim b 1), .int .u64 (lim b 2), .int .u64 (lim b 3)] 24)
  have LY := Has.new (w.alloc (.cells #[.int .u64 (lim a 0), .int .u64 (lim a 1), .int .u64 (lim a 2), .int .u64 (lim a 3)] 24)) 24 #[.int .u64 (lim b 0), .int .u64 (lim b 1), .int .u64 (lim b 2), .int .u64 (lim b 3)]
  simp only [World.size_alloc] at LY
  have k5 := LX.cell 0 _ rfl
  have k6 := LX.cell 1 _ rfl
  have k7 := LX.cell 2 _ rfl
  have k8 := LX.cell 3 _ rfl
  have k9 := LY.cell 0 _ rfl
  have k10 := LY.cell 1 _ rfl
  have k11 := LY.cell 2 _ rfl
  have k12 := LY.cell 3 _ rfl
  have LX := LX.alloc (.cells #[.int .u64 0, .int .u64 0, .int .u64 0, .int .u64 0] 24)
  have LY := LY.alloc (.cells #[.int .u64 0, .int .u64 0, .int .u64 0, .int .u64 0] 24)
  have LR := Has.new ((w.alloc (.cells #[.int .u64 (lim a 0), .int .u64 (lim a 1), .int .u64 (lim a 2), .int .u64 (lim a 3)] 24)).alloc (.cells #[.int .u64 (lim b 0), .int .u64 (lim b 1), .int .u64 (lim b 2), .int .u64 (lim b 3)] 24)) 24 #[.int .u64 0, .int .u64 0, .int .u64 0, .int .u64 0]
  simp only [World.size_alloc] at LR
  have k13 := LX.cell 0 _ rfl
  have k14 := LX.cell 1 _ rfl
  have k15 := LX.cell 2 _ rfl
  have k16 := LX.cell 3 _ rfl
  have k17 := LY.cell 0 _ rfl
  have k18 := LY.cell 1 _ rfl
  have k19 := LY.cell 2 _ rfl
  have k20 := LY.cell 3 _ rfl
  have k21 := LR.cell 0 _ rfl
  have k22 := LR.cell 1 _ rfl
  have k23 := LR.cell 2 _ rfl
  have k24 := LR.cell 3 _ rfl
  have Q := (Below.refl w.heap.size w)
  have Q := Q.alloc Q.size (.cells #[.int .u64 (lim a 0), .int .u64 (lim a 1), .int .u64 (lim a 2), .int .u64 (lim a 3)] 24)
  have Q := Q.alloc Q.size (.cells #[.int .u64 (lim b 0), .int .u64 (lim b 1), .int .u64 (lim b 2), .int .u64 (lim b 3)] 24)
  have Q := Q.alloc Q.size (.cells #[.int .u64 0, .int .u64 0, .int .u64 0, .int .u64 0] 24)
  go_wp2_with fail
  clear k1 k2 k3 k4 k5 k6 k7 k8 k9 k10 k11 k12 k13 k14 k15 k16 k17 k18 k19 k20 k21 k22 k23 k24
  obtain ⟨W1, hW1⟩ : ∃ W1, (((w.alloc (.cells #[.int .u64 (lim a 0), .int .u64 (lim a 1), .int .u64 (lim a 2), .int .u64 (lim a 3)] 24)).alloc (.cells #[.int .u64 (lim b 0), .int .u64 (lim b 1), .int .u64 (lim b 2), .int .u64 (lim b 3)] 24)).alloc (.cells #[.int .u64 0, .int .u64 0, .int .u64 0, .int .u64 0] 24)) = W1 := ⟨_, rfl⟩
  rw [hW1] at LX LY LR Q ⊢
  clear hW1
  refine (Hh.out _).mono ?_
  rintro e v25 ⟨rfl, q⟩
  have LX := LX.later q
  have LY := LY.later q
  have LR := LR.later q
  have Q := Q.trans (q.mono Q.size)
  clear q
  have r0 := LR.cell 0 _ rfl
  have z0 := LR.frozen 0
  have r1 := LR.cell 1 _ rfl
  have z1 := LR.frozen 1
  have r2 := LR.cell 2 _ rfl
  have z2 := LR.frozen 2
  have r3 := LR.cell 3 _ rfl
  have z3 := LR.frozen 3
  have k26 := LX.cell 0 _ rfl
  have k27 := LX.cell 1 _ rfl
  have k28 := LX.cell 2 _ rfl
  have k29 := LX.cell 3 _ rfl
  have k30 := LY.cell 0 _ rfl
  have k31 := LY.cell 1 _ rfl
  have k32 := LY.cell 2 _ rfl
  have k33 := LY.cell 3 _ rfl
  have HR := Lib.hid (((((LR.set 0 (.int .u64 (lim r 0))).set 1 (.int .u64 (lim r 1))).set 2 (.int .u64 (lim r 2))).set 3 (.int .u64 (lim r 3))))
  have HQ := Lib.hid (((((Q.setCell (p := ⟨w.heap.size + 1 + 1, 0, none⟩) (show w.heap.size ≤ _ by simp; first | done | omega) (.int .u64 (lim r 0))).setCell (p := ⟨w.heap.size + 1 + 1, 1, none⟩) (show w.heap.size ≤ _ by simp; first | done | omega) (.int .u64 (lim r 1))).setCell (p := ⟨w.heap.size + 1 + 1, 2, none⟩) (show w.heap.size ≤ _ by simp; first | done | omega) (.int .u64 (lim r 2))).setCell (p := ⟨w.heap.size + 1 + 1, 3, none⟩) (show w.heap.size ≤ _ by simp; first | done | omega) (.int .u64 (lim r 3))))
  clear Q LX LY LR
  go_wp2
  refine bodyPost_ret (results_word (m := lim r) rfl rfl HR.out) rfl ⟨rfl, HQ.out⟩

theorem refAnd_ret (a b : Nat) (ha : W256 a) (hb : W256 b) : Ret Tryd.prog 9 #[wv a, wv b] (wv (a &&& b)) :=
  refAnd_walk a b (a &&& b) (refBoth_ret a b (a &&& b) tAnd (and_lt a b hb) (fun j _ => by
    rw [bt_test, bt_test, bt_test, Nat.testBit_and]
    cases a.testBit j <;> cases b.testBit j <;> rfl))

set_option maxRecDepth 100000 in
set_option maxHeartbeats 4000000 in
theorem refOr_walk (a b r : Nat) (h : Ret Tryd.prog 35 #[.agg #[.int .u64 (lim a 0), .int .u64 (lim a 1), .int .u64 (lim a 2), .int .u64 (lim a 3)], .agg #[.int .u64 (lim b 0), .int .u64 (lim b 1), .int .u64 (lim b 2), .int .u64 (lim b 3)], .agg #[.int .i64 0, .int .i64 1, .int .i64 1, .int .i64 1]] (.agg #[.int .u64 (lim r 0), .int .u64 (lim r 1), .int .u64 (lim r 2), .int .u64 (lim r 3)])) :
    Ret Tryd.prog 11 #[.agg #[.int .u64 (lim a 0), .int .u64 (lim a 1), .int .u64 (lim a 2), .int .u64 (lim a 3)], .agg #[.int .u64 (lim b 0), .int .u64 (lim b 1), .int .u64 (lim b 2), .int .u64 (lim b 3)]] (.agg #[.int .u64 (lim r 0), .int .u64 (lim r 1), .int .u64 (lim r 2), .int .u64 (lim r 3)]) := by
  intro w
  have Hh := Lib.hid h
  clear h
  go_enter Tryd.func11, Tryd.ntmps11
  have LX := Has.new w 24 #[.int .u64 (lim a 0), .int .u64 (lim a 1), .int .u64 (lim a 2), .int .u64 (lim a 3)]
  have k1 := LX.cell 0 _ rfl
  have k2 := LX.cell 1 _ rfl
  have k3 := LX.cell 2 _ rfl
  have k4 := LX.cell 3 _ rfl
  have LX := LX.alloc (.cells #[.int .u64 (lim b 0), .int .u64 (lim b 1), .int .u64 (lim b 2), .int .u64 (lim b 3)] 24)
  have LY := Has.new (w.alloc (.cells #[.int .u64 (lim a 0), .int .u64 (lim a 1), .int .u64 (lim a 2), .int .u64 (lim a 3)] 24)) 24 #[.int .u64 (lim b 0), .int .u64 (lim b 1), .int .u64 (lim b 2), .int .u64 (lim b 3)]
  simp only [World.size_alloc] at LY
  have k5 := LX.cell 0 _ rfl
  have k6 := LX.cell 1 _ rfl
  have k7 := LX.cell 2 _ rfl
  have k8 := LX.cell 3 _ rfl
  have k9 := LY.cell 0 _ rfl
  have k10 := LY.cell 1 _ rfl
  have k11 := LY.cell 2 _ rfl
  have k12 := LY.cell 3 _ rfl
  have LX := LX.alloc (.cells #[.int .u64 0, .int .u64 0, .int .u64 0, .int .u64 0] 24)
  have LY := LY.alloc (.cells #[.int .u64 0, .int .u64 0, .int .u64 0, .int .u64 0] 24)
  have LR := Has.new ((w.alloc (.cells #[.int .u64 (lim a 0), .int .u64 (lim a 1), .int .u64 (lim a 2), .int .u64 (lim a 3)] 24)).alloc (.cells #[.int .u64 (lim b 0), .int .u64 (lim b 1), .int .u64 (lim b 2), .int .u64 (lim b 3)] 24)) 24 #[.int .u64 0, .int .u64 0, .int .u64 0, .int .u64 0]
  simp only [World.size_alloc] at LR
  have k13 := LX.cell 0 _ rfl
  have k14 := LX.cell 1 _ rfl
  have k15 := LX.cell 2 _ rfl
  have k16 := LX.cell 3 _ rfl
  have k17 := LY.cell 0 _ rfl
  have k18 := LY.cell 1 _ rfl
  have k19 := LY.cell 2 _ rfl
  have k20 := LY.cell 3 _ rfl
  have k21 := LR.cell 0 _ rfl
  have k22 := LR.cell 1 _ rfl
  have k23 := LR.cell 2 _ rfl
  have k24 := LR.cell 3 _ rfl
  have Q := (Below.refl w.heap.size w)
  have Q := Q.alloc Q.size (.cells #[.int .u64 (lim a 0), .int .u64 (lim a 1), .int .u64 (lim a 2), .int .u64 (lim a 3)] 24)
  have Q := Q.alloc Q.size (.cells #[.int .u64 (lim b 0), .int .u64 (lim b 1), .int .u64 (lim b 2), .int .u64 (lim b 3)] 24)
  have Q := Q.alloc Q.size (.cells #[.int .u64 0, .int .u64 0, .int .u64 0, .int .u64 0] 24)
  go_wp2_with fail
  clear k1 k2 k3 k4 k5 k6 k7 k8 k9 k10 k11 k12 k13 k14 k15 k16 k17 k18 k19 k20 k21 k22 k23 k24
  obtain ⟨W1, hW1⟩ : ∃ W1, (((w.alloc (.cells #[.int .u64 (lim a 0), .int .u64 (lim a 1), .int .u64 (lim a 2), .int .u64 (lim a 3)] 24)).alloc (.cells #[.int .u64 (lim b 0), .int .u64 (lim b 1), .int .u64 (lim b 2), .int .u64 (lim b 3)] 24)).alloc (.cells #[.int .u64 0, .int .u64 0, .int .u64 0, .int .u64 0] 24)) = W1 := ⟨_, rfl⟩
  rw [hW1] at LX LY LR Q ⊢
  clear hW1
  refine (Hh.out _).mono ?_
  rintro e v25 ⟨rfl, q⟩
  have LX := LX.later q
  have LY := LY.later q
  have LR := LR.later q
  have Q := Q.trans (q.mono Q.size)
  clear q
  have r0 := LR.cell 0 _ rfl
  have z0 := LR.frozen 0
  have r1 := LR.cell 1 _ rfl
  have z1 := LR.frozen 1
  have r2 := LR.cell 2 _ rfl
  have z2 := LR.frozen 2
  have r3 := LR.cell 3 _ rfl
  have z3 := LR.frozen 3
  have k26 := LX.cell 0 _ rfl
  have k27 := LX.cell 1 _ rfl
  have k28 := LX.cell 2 _ rfl
  have k29 := LX.cell 3 _ rfl
  have k30 := LY.cell 0 _ rfl
  have k31 := LY.cell 1 _ rfl
  have k32 := LY.cell 2 _ rfl
  have k33 := LY.cell 3 _ rfl
  have HR := Lib.hid (((((LR.set 0 (.int .u64 (lim r 0))).set 1 (.int .u64 (lim r 1))).set 2 (.int .u64 (lim r 2))).set 3 (.int .u64 (lim r 3))))
  have HQ := Lib.hid (((((Q.setCell (p := ⟨w.heap.size + 1 + 1, 0, none⟩) (show w.heap.size ≤ _ by simp; first | done | omega) (.int .u64 (lim r 0))).setCell (p := ⟨w.heap.size + 1 + 1, 1, none⟩) (show w.heap.size ≤ _ by simp; first | done | omega) (.int .u64 (lim r 1))).setCell (p := ⟨w.heap.size + 1 + 1, 2, none⟩) (show w.heap.size ≤ _ by simp; first | done | omega) (.int .u64 (lim r 2))).setCell (p := ⟨w.heap.size + 1 + 1, 3, none⟩) (show w.heap.size ≤ _ by simp; first | done | omega) (.int .u64 (lim r 3))))
  clear Q LX LY LR
  go_wp2
  refine bodyPost_ret (results_word (m := lim r) rfl rfl HR.out) rfl ⟨rfl, HQ.out⟩

theorem refOr_ret (a b : Nat) (ha : W256 a) (hb : W256 b) : Ret Tryd.prog 11 #[wv a, wv b] (wv (a ||| b)) :=
  refOr_walk a b (a ||| b) (refBoth_ret a b (a ||| b) tOr (or_lt a b ha hb) (fun j _ => by
    rw [bt_test, bt_test, bt_test, Nat.testBit_or]
    cases a.testBit j <;> cases b.testBit j <;> rfl))

set_option maxRecDepth 100000 in
set_option maxHeartbeats 4000000 in
theorem refXor_walk (a b r : Nat) (h : Ret Tryd.prog 35 #[.agg #[.int .u64 (lim a 0), .int .u64 (lim a 1), .int .u64 (lim a 2), .int .u64 (lim a 3)], .agg #[.int .u64 (lim b 0), .int .u64 (lim b 1), .int .u64 (lim b 2), .int .u64 (lim b 3)], .agg #[.int .i64 0, .int .i64 1, .int .i64 1, .int .i64 0]] (.agg #[.int .u64 (lim r 0), .int .u64 (lim r 1), .int .u64 (lim r 2), .int .u64 (lim r 3)])) :
    Ret Tryd.prog 13 #[.agg #[.int .u64 (lim a 0), .int .u64 (lim a 1), .int .u64 (lim a 2), .int .u64 (lim a 3)], .agg #[.int .u64 (lim b 0), .int .u64 (lim b 1), .int .u64 (lim b 2), .int .u64 (lim b 3)]] (.agg #[.int .u64 (lim r 0), .int .u64 (lim r 1), .int .u64 (lim r 2), .int .u64 (lim r 3)]) := by
  intro w
  have Hh := Lib.hid h
  clear h
  go_enter Tryd.func13, Tryd.ntmps13
  have LX := Has.new w 24 #[.int .u64 (lim a 0), .int .u64 (lim a 1), .int .u64 (lim a 2), .int .u64 (lim a 3)]
  have k1 := LX.cell 0 _ rfl
  have k2 := LX.cell 1 _ rfl
  have k3 := LX.cell 2 _ rfl
  have k4 := LX.cell 3 _ rfl
  have LX := LX.alloc (.cells #[.int .u64 (lim b 0), .int .u64 (lim b 1), .int .u64 (lim b 2), .int .u64 (lim b 3)] 24)
  have LY := Has.new (w.alloc (.cells #[.int .u64 (lim a 0), .int .u64 (lim a 1), .int .u64 (lim a 2), .int .u64 (lim a 3)] 24)) 24 #[.int .u64 (lim b 0), .int .u64 (lim b 1), .int .u64 (lim b 2), .int .u64 (lim b 3)]
  simp only [World.size_alloc] at LY
  have k5 := LX.cell 0 _ rfl
  have k6 := LX.cell 1 _ rfl
  have k7 := LX.cell 2 _ rfl
  have k8 := LX.cell 3 _ rfl
  have k9 := LY.cell 0 _ rfl
  have k10 := LY.cell 1 _ rfl
  have k11 := LY.cell 2 _ rfl
  have k12 := LY.cell 3 _ rfl
  have LX := LX.alloc (.cells #[.int .u64 0, .int .u64 0, .int .u64 0, .int .u64 0] 24)
  have LY := LY.alloc (.cells #[.int .u64 0, .int .u64 0, .int .u64 0, .int .u64 0] 24)
  have LR := Has.new ((w.alloc (.cells #[.int .u64 (lim a 0), .int .u64 (lim a 1), .int .u64 (lim a 2), .int .u64 (lim a 3)] 24)).alloc (.cells #[.int .u64 (lim b 0), .int .u64 (lim b 1), .int .u64 (lim b 2), .int .u64 (lim b 3)] 24)) 24 #[.int .u64 0, .int .u64 0, .int .u64 0, .int .u64 0]
  simp only [World.size_alloc] at LR
  have k13 := LX.cell 0 _ rfl
  have k14 := LX.cell 1 _ rfl
  have k15 := LX.cell 2 _ rfl
  have k16 := LX.cell 3 _ rfl
  have k17 := LY.cell 0 _ rfl
  have k18 := LY.cell 1 _ rfl
  have k19 := LY.cell 2 _ rfl
  have k20 := LY.cell 3 _ rfl
  have k21 := LR.cell 0 _ rfl
  have k22 := LR.cell 1 _ rfl
  have k23 := LR.cell 2 _ rfl
  have k24 := LR.cell 3 _ rfl
  have Q := (Below.refl w.heap.size w)
  have Q := Q.alloc Q.size (.cells #[.int .u64 (lim a 0), .int .u64 (lim a 1), .int .u64 (lim a 2), .int .u64 (lim a 3)] 24)
  have Q := Q.alloc Q.size (.cells #[.int .u64 (lim b 0), .int .u64 (lim b 1), .int .u64 (lim b 2), .int .u64 (lim b 3)] 24)
  have Q := Q.alloc Q.size (.cells #[.int .u64 0, .int .u64 0, .int .u64 0, .int .u64 0] 24)
  go_wp2_with fail
  clear k1 k2 k3 k4 k5 k6 k7 k8 k9 k10 k11 k12 k13 k14 k15 k16 k17 k18 k19 k20 k21 k22 k23 k24
  obtain ⟨W1, hW1⟩ : ∃ W1, (((w.alloc (.cells #[.int .u64 (lim a 0), .int .u64 (lim a 1), .int .u64 (lim a 2), .int .u64 (lim a 3)] 24)).alloc (.cells #[.int .u64 (lim b 0), .int .u64 (lim b 1), .int .u64 (lim b 2), .int .u64 (lim b 3)] 24)).alloc (.cells #[.int .u64 0, .int .u64 0, .int .u64 0, .int .u64 0] 24)) = W1 := ⟨_, rfl⟩
  rw [hW1] at LX LY LR Q ⊢
  clear hW1
  refine (Hh.out _).mono ?_
  rintro e v25 ⟨rfl, q⟩
  have LX := LX.later q
  have LY := LY.later q
  have LR := LR.later q
  have Q := Q.trans (q.mono Q.size)
  clear q
  have r0 := LR.cell 0 _ rfl
  have z0 := LR.frozen 0
  have r1 := LR.cell 1 _ rfl
  have z1 := LR.frozen 1
  have r2 := LR.cell 2 _ rfl
  have z2 := LR.frozen 2
  have r3 := LR.cell 3 _ rfl
  have z3 := LR.frozen 3
  have k26 := LX.cell 0 _ rfl
  have k27 := LX.cell 1 _ rfl
  have k28 := LX.cell 2 _ rfl
  have k29 := LX.cell 3 _ rfl
  have k30 := LY.cell 0 _ rfl
  have k31 := LY.cell 1 _ rfl
  have k32 := LY.cell 2 _ rfl
  have k33 := LY.cell 3 _ rfl
  have HR := Lib.hid (((((LR.set 0 (.int .u64 (lim r 0))).set 1 (.int .u64 (lim r 1))).set 2 (.int .u64 (lim r 2))).set 3 (.int .u64 (lim r 3))))
  have HQ := Lib.hid (((((Q.setCell (p := ⟨w.heap.size + 1 + 1, 0, none⟩) (show w.heap.size ≤ _ by simp; first | done | omega) (.int .u64 (lim r 0))).setCell (p := ⟨w.heap.size + 1 + 1, 1, none⟩) (show w.heap.size ≤ _ by simp; first | done | omega) (.int .u64 (lim r 1))).setCell (p := ⟨w.heap.size + 1 + 1, 2, none⟩) (show w.heap.size ≤ _ by simp; first | done | omega) (.int .u64 (lim r 2))).setCell (p := ⟨w.heap.size + 1 + 1, 3, none⟩) (show w.heap.size ≤ _ by simp; first | done | omega) (.int .u64 (lim r 3))))
  clear Q LX LY LR
  go_wp2
  refine bodyPost_ret (results_word (m := lim r) rfl rfl HR.out) rfl ⟨rfl, HQ.out⟩

theorem refXor_ret (a b : Nat) (ha : W256 a) (hb : W256 b) : Ret Tryd.prog 13 #[wv a, wv b] (wv (a ^^^ b)) :=
  refXor_walk a b (a ^^^ b) (refBoth_ret a b (a ^^^ b) tXor (xor_lt a b ha hb) (fun j _ => by
    rw [bt_test, bt_test, bt_test, Nat.testBit_xor]
    cases a.testBit j <;> cases b.testBit j <;> rfl))

set_option maxRecDepth 100000 in
set_option maxHeartbeats 4000000 in
theorem refNot_walk (a r : Nat) (h : Ret Tryd.prog 35 #[.agg #[.int .u64 (lim a 0), .int .u64 (lim a 1), .int .u64 (lim a 2), .int .u64 (lim a 3)], .agg #[.int .u64 (lim a 0), .int .u64 (lim a 1), .int .u64 (lim a 2), .int .u64 (lim a 3)], .agg #[.int .i64 1, .int .i64 1, .int .i64 0, .int .i64 0]] (.agg #[.int .u64 (lim r 0), .int .u64 (lim r 1), .int .u64 (lim r 2), .int .u64 (lim r 3)])) :
    Ret Tryd.prog 15 #[.agg #[.int .u64 (lim a 0), .int .u64 (lim a 1), .int .u64 (lim a 2), .int .u64 (lim a 3)]] (.agg #[.int .u64 (lim r 0), .int .u64 (lim r 1), .int .u64 (lim r 2), .int .u64 (lim r 3)]) := by
  intro w
  have Hh := Lib.hid h
  clear h
  go_enter Tryd.func15, Tryd.ntmps15
  have LX := Has.new w 24 #[.int .u64 (lim a 0), .int .u64 (lim a 1), .int .u64 (lim a 2), .int .u64 (lim a 3)]
  have k1 := LX.cell 0 _ rfl
  have k2 := LX.cell 1 _ rfl
  have k3 := LX.cell 2 _ rfl
  have k4 := LX.cell 3 _ rfl
  have LX := LX.alloc (.cells #[.int .u64 0, .int .u64 0, .int .u64 0, .int .u64 0] 24)
  have LR := Has.new (w.alloc (.cells #[.int .u64 (lim a 0), .int .u64 (lim a 1), .int .u64 (lim a 2), .int .u64 (lim a 3)] 24)) 24 #[.int .u64 0, .int .u64 0, .int .u64 0, .int .u64 0]
  simp only [World.size_alloc] at LR
  have k5 := LX.cell 0 _ rfl
  have k6 := LX.cell 1 _ rfl
  have k7 := LX.cell 2 _ rfl
  have k8 := LX.cell 3 _ rfl
  have k9 := LR.cell 0 _ rfl
  have k10 := LR.cell 1 _ rfl
  have k11 := LR.cell 2 _ rfl
  have k12 := LR.cell 3 _ rfl
  have Q := (Below.refl w.heap.size w)
  have Q := Q.alloc Q.size (.cells #[.int .u64 (lim a 0), .int .u64 (lim a 1), .int .u64 (lim a 2), .int .u64 (lim a 3)] 24)
  have Q := Q.alloc Q.size (.cells #[.int .u64 0, .int .u64 0, .int .u64 0, .int .u64 0] 24)
  go_wp2_with fail
  clear k1 k2 k3 k4 k5 k6 k7 k8 k9 k10 k11 k12
  obtain ⟨W1, hW1⟩ : ∃ W1, ((w.alloc (.cells #[.int .u64 (lim a 0), .int .u64 (lim a 1), .int .u64 (lim a 2), .int .u64 (lim a 3)] 24)).alloc (.cells #[.int .u64 0, .int .u64 0, .int .u64 0, .int .u64 0] 24)) = W1 := ⟨_, rfl⟩
  rw [hW1] at LX LR Q ⊢
  clear hW1
  refine (Hh.out _).mono ?_
  rintro e v13 ⟨rfl, q⟩
  have LX := LX.later q
  have LR := LR.later q
  have Q := Q.trans (q.mono Q.size)
  clear q
  have r0 := LR.cell 0 _ rfl
  have z0 := LR.frozen 0
  have r1 := LR.cell 1 _ rfl
  have z1 := LR.frozen 1
  have r2 := LR.cell 2 _ rfl
  have z2 := LR.frozen 2
  have r3 := LR.cell 3 _ rfl
  have z3 := LR.frozen 3
  have k14 := LX.cell 0 _ rfl
  have k15 := LX.cell 1 _ rfl
  have k16 := LX.cell 2 _ rfl
  have k17 := LX.cell 3 _ rfl
  have HR := Lib.hid (((((LR.set 0 (.int .u64 (lim r 0))).set 1 (.int .u64 (lim r 1))).set 2 (.int .u64 (lim r 2))).set 3 (.int .u64 (lim r 3))))
  have HQ := Lib.hid (((((Q.setCell (p := ⟨w.heap.size + 1, 0, none⟩) (show w.heap.size ≤ _ by simp; first | done | omega) (.int .u64 (lim r 0))).setCell (p := ⟨w.heap.size + 1, 1, none⟩) (show w.heap.size ≤ _ by simp; first | done | omega) (.int .u64 (lim r 1))).setCell (p := ⟨w.heap.size + 1, 2, none⟩) (show w.heap.size ≤ _ by simp; first | done | omega) (.int .u64 (lim r 2))).setCell (p := ⟨w.heap.size + 1, 3, none⟩) (show w.heap.size ≤ _ by simp; first | done | omega) (.int .u64 (lim r 3))))
  clear Q LX LR
  go_wp2
  refine bodyPost_ret (results_word (m := lim r) rfl rfl HR.out) rfl ⟨rfl, HQ.out⟩

theorem refNot_ret (a : Nat) (ha : W256 a) : Ret Tryd.prog 15 #[wv a] (wv (a ^^^ M1)) :=
  refNot_walk a (a ^^^ M1) (refBoth_ret a a (a ^^^ M1) tNot (xor_lt a M1 ha M1_lt) (fun j hj => by
    rw [bt_test, bt_test, Nat.testBit_xor, m1_bit j hj]
    cases a.testBit j <;> rfl))

end Go.Proofs.YtnlcllhjhbaigaaDoor
