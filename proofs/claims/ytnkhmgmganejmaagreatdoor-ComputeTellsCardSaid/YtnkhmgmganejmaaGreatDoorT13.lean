/- Part. -/
import Derived.Test.YtnkhmgmganejmaaGreatDoorT11
import Derived.Test.YtnkhmgmganejmaaGreatDoorT12
set_option maxRecDepth 100000
set_option maxHeartbeats 16000000
namespace Go.Proofs.YtnkhmgmganejmaaGreatDoor
open Go Go.RowKit Go.Shelf
attribute [local go_sem] Oper.semAt_some Grows wide_fn
theorem divide8_zero (a : Nat → Int) (w : World) :
  Calls Tryz.prog 156 #[.agg #[.int .u64 (a 0), .int .u64 (a 1), .int .u64 (a 2), .int .u64 (a 3), .int .u64 (a 4), .int .u64 (a 5), .int .u64 (a 6), .int .u64 (a 7)], .agg #[.int .u64 0, .int .u64 0, .int .u64 0, .int .u64 0]] w fun e w' => e = .returned (.tuple #[.agg #[.int .u64 0, .int .u64 0, .int .u64 0, .int .u64 0, .int .u64 0, .int .u64 0, .int .u64 0, .int .u64 0], .agg #[.int .u64 0, .int .u64 0, .int .u64 0, .int .u64 0]]) ∧ Below w.heap.size w w' := by
 have LQ : Limbs (((w.alloc (.cells #[.int .u64 (a 0), .int .u64 (a 1), .int .u64 (a 2), .int .u64 (a 3), .int .u64 (a 4), .int .u64 (a 5), .int .u64 (a 6), .int .u64 (a 7)] 143)).alloc (.cells #[.int .u64 0, .int .u64 0, .int .u64 0, .int .u64 0] 24)).alloc (.cells #[.int .u64 0, .int .u64 0, .int .u64 0, .int .u64 0, .int .u64 0, .int .u64 0, .int .u64 0, .int .u64 0] 143)) ((w.alloc (.cells #[.int .u64 (a 0), .int .u64 (a 1), .int .u64 (a 2), .int .u64 (a 3), .int .u64 (a 4), .int .u64 (a 5), .int .u64 (a 6), .int .u64 (a 7)] 143)).alloc (.cells #[.int .u64 0, .int .u64 0, .int .u64 0, .int .u64 0] 24)).heap.size 143 8 (fun _ => 0) := ⟨_, World.alloc_heap_new ((w.alloc (.cells #[.int .u64 (a 0), .int .u64 (a 1), .int .u64 (a 2), .int .u64 (a 3), .int .u64 (a 4), .int .u64 (a 5), .int .u64 (a 6), .int .u64 (a 7)] 143)).alloc (.cells #[.int .u64 0, .int .u64 0, .int .u64 0, .int .u64 0] 24)) _, rfl, fun j hj => by
  rcases (show j = 0 ∨ j = 1 ∨ j = 2 ∨ j = 3 ∨ j = 4 ∨ j = 5 ∨ j = 6 ∨ j = 7 by omega) with rfl | rfl | rfl | rfl | rfl | rfl | rfl | rfl <;> rfl⟩
 have AR := Arr4.mk0' (((w.alloc (.cells #[.int .u64 (a 0), .int .u64 (a 1), .int .u64 (a 2), .int .u64 (a 3), .int .u64 (a 4), .int .u64 (a 5), .int .u64 (a 6), .int .u64 (a 7)] 143)).alloc (.cells #[.int .u64 0, .int .u64 0, .int .u64 0, .int .u64 0] 24)).alloc (.cells #[.int .u64 0, .int .u64 0, .int .u64 0, .int .u64 0, .int .u64 0, .int .u64 0, .int .u64 0, .int .u64 0] 143)) 24
 have LD := Limbs.of4 (show Arr4 (((((w.alloc (.cells #[.int .u64 (a 0), .int .u64 (a 1), .int .u64 (a 2), .int .u64 (a 3), .int .u64 (a 4), .int .u64 (a 5), .int .u64 (a 6), .int .u64 (a 7)] 143)).alloc (.cells #[.int .u64 0, .int .u64 0, .int .u64 0, .int .u64 0] 24)).alloc (.cells #[.int .u64 0, .int .u64 0, .int .u64 0, .int .u64 0, .int .u64 0, .int .u64 0, .int .u64 0, .int .u64 0] 143)).alloc (.cells #[.int .u64 0, .int .u64 0, .int .u64 0, .int .u64 0] 24)).alloc (.cells #[.int .u64 0, .int .u64 0, .int .u64 0, .int .u64 0] 129)) ((((w.alloc (.cells #[.int .u64 (a 0), .int .u64 (a 1), .int .u64 (a 2), .int .u64 (a 3), .int .u64 (a 4), .int .u64 (a 5), .int .u64 (a 6), .int .u64 (a 7)] 143)).alloc (.cells #[.int .u64 0, .int .u64 0, .int .u64 0, .int .u64 0] 24)).alloc (.cells #[.int .u64 0, .int .u64 0, .int .u64 0, .int .u64 0, .int .u64 0, .int .u64 0, .int .u64 0, .int .u64 0] 143)).alloc (.cells #[.int .u64 0, .int .u64 0, .int .u64 0, .int .u64 0] 24)).heap.size 129 (fun _ => 0) from World.alloc_heap_new ((((w.alloc (.cells #[.int .u64 (a 0), .int .u64 (a 1), .int .u64 (a 2), .int .u64 (a 3), .int .u64 (a 4), .int .u64 (a 5), .int .u64 (a 6), .int .u64 (a 7)] 143)).alloc (.cells #[.int .u64 0, .int .u64 0, .int .u64 0, .int .u64 0] 24)).alloc (.cells #[.int .u64 0, .int .u64 0, .int .u64 0, .int .u64 0, .int .u64 0, .int .u64 0, .int .u64 0, .int .u64 0] 143)).alloc (.cells #[.int .u64 0, .int .u64 0, .int .u64 0, .int .u64 0] 24)) _)
 have LQ := (LQ.alloc (.cells #[.int .u64 0, .int .u64 0, .int .u64 0, .int .u64 0] 24)).alloc (.cells #[.int .u64 0, .int .u64 0, .int .u64 0, .int .u64 0] 129)
 have AR := AR.alloc (.cells #[.int .u64 0, .int .u64 0, .int .u64 0, .int .u64 0] 129)
 have B0 := (((((Below.refl _ w).alloc (Nat.le_refl _) (.cells #[.int .u64 (a 0), .int .u64 (a 1), .int .u64 (a 2), .int .u64 (a 3), .int .u64 (a 4), .int .u64 (a 5), .int .u64 (a 6), .int .u64 (a 7)] 143)).alloc (by simp) (.cells #[.int .u64 0, .int .u64 0, .int .u64 0, .int .u64 0] 24)).alloc (by simp; omega) (.cells #[.int .u64 0, .int .u64 0, .int .u64 0, .int .u64 0, .int .u64 0, .int .u64 0, .int .u64 0, .int .u64 0] 143)).alloc (by simp; omega) (.cells #[.int .u64 0, .int .u64 0, .int .u64 0, .int .u64 0] 24)).alloc (by simp; omega) (.cells #[.int .u64 0, .int .u64 0, .int .u64 0, .int .u64 0] 129)
 simp only [World.size_alloc] at LQ AR LD
 refine (callsIn_wide (n := 4)).1 ?_
 refine callsIn_of_wp_marks Tryz.func156 rfl trivial ?_ rfl
 simp only [Tryz.ntmps156, List.size_toArray, List.length_cons, List.length_nil, Nat.reduceAdd, Nat.reduceSub, Array.replicate_succ, Array.replicate_zero, List.push_toArray, List.append_toArray, List.nil_append, List.cons_append]
 gi_wp2_with fail
 obtain ⟨W0, hW0⟩ : ∃ W0, ((((w.alloc (.cells #[.int .u64 (a 0), .int .u64 (a 1), .int .u64 (a 2), .int .u64 (a 3), .int .u64 (a 4), .int .u64 (a 5), .int .u64 (a 6), .int .u64 (a 7)] 143)).alloc (.cells #[.int .u64 0, .int .u64 0, .int .u64 0, .int .u64 0] 24)).alloc (.cells #[.int .u64 0, .int .u64 0, .int .u64 0, .int .u64 0, .int .u64 0, .int .u64 0, .int .u64 0, .int .u64 0] 143)).alloc (.cells #[.int .u64 0, .int .u64 0, .int .u64 0, .int .u64 0] 24)).alloc (.cells #[.int .u64 0, .int .u64 0, .int .u64 0, .int .u64 0] 129) = W0 := ⟨_, rfl⟩
 rw [hW0] at LQ AR LD B0 ⊢
 clear hW0
 refine (callsIn_free free_wide (length4_any (w.heap.size + 1 + 1 + 1 + 1) 0 (fun _ => 0) (fun j _ => by simp) (by decide) W0 LD)).mono ?_
 rintro e w' ⟨⟨Lb, rfl, hLb, hLb9⟩, rfl⟩
 obtain rfl : Lb = 0 := hLb.2.1 rfl
 have HB := Lib.hid B0
 have hmx : Tryz.prog.follows .mixedOrders = true := by kernel_rfl
 have c0 := LQ.cell (j := 0) (by omega)
 have f0 := LQ.frozen 0
 have sc0 := setCell_same c0
 have c1 := LQ.cell (j := 1) (by omega)
 have f1 := LQ.frozen 1
 have sc1 := setCell_same c1
 have c2 := LQ.cell (j := 2) (by omega)
 have f2 := LQ.frozen 2
 have sc2 := setCell_same c2
 have c3 := LQ.cell (j := 3) (by omega)
 have f3 := LQ.frozen 3
 have sc3 := setCell_same c3
 have c4 := LQ.cell (j := 4) (by omega)
 have f4 := LQ.frozen 4
 have sc4 := setCell_same c4
 have c5 := LQ.cell (j := 5) (by omega)
 have f5 := LQ.frozen 5
 have sc5 := setCell_same c5
 have c6 := LQ.cell (j := 6) (by omega)
 have f6 := LQ.frozen 6
 have sc6 := setCell_same c6
 have c7 := LQ.cell (j := 7) (by omega)
 have f7 := LQ.frozen 7
 have sc7 := setCell_same c7
 have d0 := AR.cell (j := 0) (by omega)
 have g0 := AR.frozen 0
 have sd0 := setCell_same d0
 have d1 := AR.cell (j := 1) (by omega)
 have g1 := AR.frozen 1
 have sd1 := setCell_same d1
 have d2 := AR.cell (j := 2) (by omega)
 have g2 := AR.frozen 2
 have sd2 := setCell_same d2
 have d3 := AR.cell (j := 3) (by omega)
 have g3 := AR.frozen 3
 have sd3 := setCell_same d3
 clear hLb hLb9 LD LQ AR B0
 gi_wp2
 gi_region_o
 all_goals (try simp only [sc0, sc1, sc2, sc3, sc4, sc5, sc6, sc7, sd0, sd1, sd2, sd3])
 all_goals gi_wp2
 all_goals (try simp only [sc0, sc1, sc2, sc3, sc4, sc5, sc6, sc7, sd0, sd1, sd2, sd3])
 all_goals
  exact ⟨_, by simp [results, Tryz.f156, go_sem, c0, c1, c2, c3, c4, c5, c6, c7, d0, d1, d2, d3], rfl, HB.out.drew⟩
theorem below_then_grown {n B : Nat} {A W V : World} (h : Below n A W) (g : W.grownBy V (some B)) (hB : n ≤ B) (hn : n ≤ W.heap.size) : Below n A V :=
 ⟨g.os.trans h.os, g.tape.trans h.tape, g.output.trans h.output, Nat.le_trans h.size g.size, fun k hk => (g.block k (by omega) (fun e => by injection e with e; omega)).trans (h.block k hk)⟩
theorem lim_limN (M : Nat) (j : Nat) (h : M = 0) : (limN M j : Int) = 0 := by subst h; simp [limN]
theorem sum_any (a b : Nat) (ha : W256 a) (hb : W256 b) (w : World) :
  Calls Tryz.prog 157 #[wv a, wv b] w fun e w' => e = .returned (.agg #[.int .u64 (limN (a + b) 0 : Int), .int .u64 (limN (a + b) 1 : Int), .int .u64 (limN (a + b) 2 : Int), .int .u64 (limN (a + b) 3 : Int), .int .u64 (limN (a + b) 4 : Int), .int .u64 (limN (a + b) 5 : Int), .int .u64 (limN (a + b) 6 : Int), .int .u64 (limN (a + b) 7 : Int)]) ∧ Below w.heap.size w w' := by
 have A0 := (((Arr4.mk4' w 24 (lim a)).alloc (.cells #[.int .u64 (lim b 0), .int .u64 (lim b 1), .int .u64 (lim b 2), .int .u64 (lim b 3)] 24)).alloc (.cells #[.int .u64 0, .int .u64 0, .int .u64 0, .int .u64 0, .int .u64 0, .int .u64 0, .int .u64 0, .int .u64 0] 143)).alloc (.cells #[.int .u64 0, .int .u64 0, .int .u64 0, .int .u64 0, .int .u64 0, .int .u64 0, .int .u64 0, .int .u64 0] 143)
 have A1 := ((Arr4.mk4' (w.alloc (.cells #[.int .u64 (lim a 0), .int .u64 (lim a 1), .int .u64 (lim a 2), .int .u64 (lim a 3)] 24)) 24 (lim b)).alloc (.cells #[.int .u64 0, .int .u64 0, .int .u64 0, .int .u64 0, .int .u64 0, .int .u64 0, .int .u64 0, .int .u64 0] 143)).alloc (.cells #[.int .u64 0, .int .u64 0, .int .u64 0, .int .u64 0, .int .u64 0, .int .u64 0, .int .u64 0, .int .u64 0] 143)
 have LO : Limbs (((w.alloc (.cells #[.int .u64 (lim a 0), .int .u64 (lim a 1), .int .u64 (lim a 2), .int .u64 (lim a 3)] 24)).alloc (.cells #[.int .u64 (lim b 0), .int .u64 (lim b 1), .int .u64 (lim b 2), .int .u64 (lim b 3)] 24)).alloc (.cells #[.int .u64 0, .int .u64 0, .int .u64 0, .int .u64 0, .int .u64 0, .int .u64 0, .int .u64 0, .int .u64 0] 143)) ((w.alloc (.cells #[.int .u64 (lim a 0), .int .u64 (lim a 1), .int .u64 (lim a 2), .int .u64 (lim a 3)] 24)).alloc (.cells #[.int .u64 (lim b 0), .int .u64 (lim b 1), .int .u64 (lim b 2), .int .u64 (lim b 3)] 24)).heap.size 143 8 (fun _ => 0) := ⟨_, World.alloc_heap_new ((w.alloc (.cells #[.int .u64 (lim a 0), .int .u64 (lim a 1), .int .u64 (lim a 2), .int .u64 (lim a 3)] 24)).alloc (.cells #[.int .u64 (lim b 0), .int .u64 (lim b 1), .int .u64 (lim b 2), .int .u64 (lim b 3)] 24)) _, rfl, fun j hj => by
  rcases (show j = 0 ∨ j = 1 ∨ j = 2 ∨ j = 3 ∨ j = 4 ∨ j = 5 ∨ j = 6 ∨ j = 7 by omega) with rfl | rfl | rfl | rfl | rfl | rfl | rfl | rfl <;> rfl⟩
 have LO := LO.alloc (.cells #[.int .u64 0, .int .u64 0, .int .u64 0, .int .u64 0, .int .u64 0, .int .u64 0, .int .u64 0, .int .u64 0] 143)
 have LM : Limbs ((((w.alloc (.cells #[.int .u64 (lim a 0), .int .u64 (lim a 1), .int .u64 (lim a 2), .int .u64 (lim a 3)] 24)).alloc (.cells #[.int .u64 (lim b 0), .int .u64 (lim b 1), .int .u64 (lim b 2), .int .u64 (lim b 3)] 24)).alloc (.cells #[.int .u64 0, .int .u64 0, .int .u64 0, .int .u64 0, .int .u64 0, .int .u64 0, .int .u64 0, .int .u64 0] 143)).alloc (.cells #[.int .u64 0, .int .u64 0, .int .u64 0, .int .u64 0, .int .u64 0, .int .u64 0, .int .u64 0, .int .u64 0] 143)) (((w.alloc (.cells #[.int .u64 (lim a 0), .int .u64 (lim a 1), .int .u64 (lim a 2), .int .u64 (lim a 3)] 24)).alloc (.cells #[.int .u64 (lim b 0), .int .u64 (lim b 1), .int .u64 (lim b 2), .int .u64 (lim b 3)] 24)).alloc (.cells #[.int .u64 0, .int .u64 0, .int .u64 0, .int .u64 0, .int .u64 0, .int .u64 0, .int .u64 0, .int .u64 0] 143)).heap.size 143 8 (fun _ => 0) := ⟨_, World.alloc_heap_new (((w.alloc (.cells #[.int .u64 (lim a 0), .int .u64 (lim a 1), .int .u64 (lim a 2), .int .u64 (lim a 3)] 24)).alloc (.cells #[.int .u64 (lim b 0), .int .u64 (lim b 1), .int .u64 (lim b 2), .int .u64 (lim b 3)] 24)).alloc (.cells #[.int .u64 0, .int .u64 0, .int .u64 0, .int .u64 0, .int .u64 0, .int .u64 0, .int .u64 0, .int .u64 0] 143)) _, rfl, fun j hj => by
  rcases (show j = 0 ∨ j = 1 ∨ j = 2 ∨ j = 3 ∨ j = 4 ∨ j = 5 ∨ j = 6 ∨ j = 7 by omega) with rfl | rfl | rfl | rfl | rfl | rfl | rfl | rfl <;> rfl⟩
 have LM := LM.congr (m' := fun j => (limN 0 j : Int)) (fun j _ => (lim_limN 0 j rfl).symm)
 have B0 := ((((Below.refl _ w).alloc (Nat.le_refl _) (.cells #[.int .u64 (lim a 0), .int .u64 (lim a 1), .int .u64 (lim a 2), .int .u64 (lim a 3)] 24)).alloc (by simp) (.cells #[.int .u64 (lim b 0), .int .u64 (lim b 1), .int .u64 (lim b 2), .int .u64 (lim b 3)] 24)).alloc (by simp; omega) (.cells #[.int .u64 0, .int .u64 0, .int .u64 0, .int .u64 0, .int .u64 0, .int .u64 0, .int .u64 0, .int .u64 0] 143)).alloc (by simp; omega) (.cells #[.int .u64 0, .int .u64 0, .int .u64 0, .int .u64 0, .int .u64 0, .int .u64 0, .int .u64 0, .int .u64 0] 143)
 simp only [World.size_alloc] at A1 LO LM
 have P1 := fun W h => add8_any (w.heap.size + 1 + 1 + 1) 0 a 0 ha (by omega) W h
 have P2 := fun W h => add8_any (w.heap.size + 1 + 1 + 1) (0 + a * 18446744073709551616 ^ 0) b 0 hb (by omega) W h
 have es : 0 + a * 18446744073709551616 ^ 0 + b * 18446744073709551616 ^ 0 = a + b := by simp
 rw [es] at P2
 generalize 0 + a * 18446744073709551616 ^ 0 = a' at P1 P2
 clear es
 unfold wv at P1 P2 ⊢
 refine (callsIn_wide (n := 4)).1 ?_
 refine callsIn_of_wp_marks Tryz.func157 rfl trivial ?_ rfl
 simp only [Tryz.ntmps157, List.size_toArray, List.length_cons, List.length_nil, Nat.reduceAdd, Nat.reduceSub, Array.replicate_succ, Array.replicate_zero, List.push_toArray, List.append_toArray, List.nil_append, List.cons_append]
 have k0 := A0.cell (j := 0) (by omega)
 have k1 := A0.cell (j := 1) (by omega)
 have k2 := A0.cell (j := 2) (by omega)
 have k3 := A0.cell (j := 3) (by omega)
 gi_wp2_with fail
 obtain ⟨W0, hW0⟩ : ∃ W0, ((((w.alloc (.cells #[.int .u64 (lim a 0), .int .u64 (lim a 1), .int .u64 (lim a 2), .int .u64 (lim a 3)] 24)).alloc (.cells #[.int .u64 (lim b 0), .int .u64 (lim b 1), .int .u64 (lim b 2), .int .u64 (lim b 3)] 24)).alloc (.cells #[.int .u64 0, .int .u64 0, .int .u64 0, .int .u64 0, .int .u64 0, .int .u64 0, .int .u64 0, .int .u64 0] 143)).alloc (.cells #[.int .u64 0, .int .u64 0, .int .u64 0, .int .u64 0, .int .u64 0, .int .u64 0, .int .u64 0, .int .u64 0] 143)) = W0 := ⟨_, rfl⟩
 rw [hW0] at A0 A1 LO LM B0 k0 k1 k2 k3 ⊢
 clear hW0 k0 k1 k2 k3
 refine (callsIn_free free_wide (P1 W0 LM)).mono ?_
 rintro e V ⟨rfl, LV, g⟩
 have A1 := A1.kept g (fun e => by injection e with e; omega)
 have LO := LO.kept g (fun e => by injection e with e; omega)
 have k0 := A1.cell (j := 0) (by omega)
 have k1 := A1.cell (j := 1) (by omega)
 have k2 := A1.cell (j := 2) (by omega)
 have k3 := A1.cell (j := 3) (by omega)
 gi_wp2_with fail
 clear k0 k1 k2 k3
 refine (callsIn_free free_wide (P2 V LV)).mono ?_
 rintro e U ⟨rfl, LU, g'⟩
 have LO := LO.kept g' (fun e => by injection e with e; omega)
 have c0 := LU.cell (j := 0) (by omega)
 have d0 := LO.cell (j := 0) (by omega)
 have f0 := LO.frozen 0
 have c1 := LU.cell (j := 1) (by omega)
 have d1 := LO.cell (j := 1) (by omega)
 have f1 := LO.frozen 1
 have c2 := LU.cell (j := 2) (by omega)
 have d2 := LO.cell (j := 2) (by omega)
 have f2 := LO.frozen 2
 have c3 := LU.cell (j := 3) (by omega)
 have d3 := LO.cell (j := 3) (by omega)
 have f3 := LO.frozen 3
 have c4 := LU.cell (j := 4) (by omega)
 have d4 := LO.cell (j := 4) (by omega)
 have f4 := LO.frozen 4
 have c5 := LU.cell (j := 5) (by omega)
 have d5 := LO.cell (j := 5) (by omega)
 have f5 := LO.frozen 5
 have c6 := LU.cell (j := 6) (by omega)
 have d6 := LO.cell (j := 6) (by omega)
 have f6 := LO.frozen 6
 have c7 := LU.cell (j := 7) (by omega)
 have d7 := LO.cell (j := 7) (by omega)
 have f7 := LO.frozen 7
 have HL := Lib.hid LO
 have HB := Lib.hid (((below_then_grown B0 g (by omega) B0.size)).trans (below_then_grown (Below.refl _ V) g' (by omega) (Nat.le_trans B0.size g.size)))
 clear LO LU B0 g g' LV A0 A1 P1 P2 LM
 gi_wp2
 have LS := HL.out.set (k := 0) (by omega) (limN (a + b) 0 : Int)
 have LS := LS.set (k := 1) (by omega) (limN (a + b) 1 : Int)
 have LS := LS.set (k := 2) (by omega) (limN (a + b) 2 : Int)
 have LS := LS.set (k := 3) (by omega) (limN (a + b) 3 : Int)
 have LS := LS.set (k := 4) (by omega) (limN (a + b) 4 : Int)
 have LS := LS.set (k := 5) (by omega) (limN (a + b) 5 : Int)
 have LS := LS.set (k := 6) (by omega) (limN (a + b) 6 : Int)
 have LS := LS.set (k := 7) (by omega) (limN (a + b) 7 : Int)
 have LS := LS.congr (m' := fun j => (limN (a + b) j : Int)) (fun j hj => by
  rcases (show j = 0 ∨ j = 1 ∨ j = 2 ∨ j = 3 ∨ j = 4 ∨ j = 5 ∨ j = 6 ∨ j = 7 by omega) with rfl | rfl | rfl | rfl | rfl | rfl | rfl | rfl <;> simp)
 clear c0 d0 f0
 clear c1 d1 f1
 clear c2 d2 f2
 clear c3 d3 f3
 clear c4 d4 f4
 clear c5 d5 f5
 clear c6 d6 f6
 clear c7 d7 f7
 have e0 := LS.cell (j := 0) (by omega)
 have e1 := LS.cell (j := 1) (by omega)
 have e2 := LS.cell (j := 2) (by omega)
 have e3 := LS.cell (j := 3) (by omega)
 have e4 := LS.cell (j := 4) (by omega)
 have e5 := LS.cell (j := 5) (by omega)
 have e6 := LS.cell (j := 6) (by omega)
 have e7 := LS.cell (j := 7) (by omega)
 clear LS
 exact ⟨_, by simp [results, Tryz.f157, go_sem, e0, e1, e2, e3, e4, e5, e6, e7], rfl, ((((((((HB.out.setCell (p := ⟨w.heap.size + 1 + 1, 0, none⟩) (show w.heap.size ≤ w.heap.size + 1 + 1 by omega) (.int .u64 (limN (a + b) 0 : Int))).setCell (p := ⟨w.heap.size + 1 + 1, 1, none⟩) (show w.heap.size ≤ w.heap.size + 1 + 1 by omega) (.int .u64 (limN (a + b) 1 : Int))).setCell (p := ⟨w.heap.size + 1 + 1, 2, none⟩) (show w.heap.size ≤ w.heap.size + 1 + 1 by omega) (.int .u64 (limN (a + b) 2 : Int))).setCell (p := ⟨w.heap.size + 1 + 1, 3, none⟩) (show w.heap.size ≤ w.heap.size + 1 + 1 by omega) (.int .u64 (limN (a + b) 3 : Int))).setCell (p := ⟨w.heap.size + 1 + 1, 4, none⟩) (show w.heap.size ≤ w.heap.size + 1 + 1 by omega) (.int .u64 (limN (a + b) 4 : Int))).setCell (p := ⟨w.heap.size + 1 + 1, 5, none⟩) (show w.heap.size ≤ w.heap.size + 1 + 1 by omega) (.int .u64 (limN (a + b) 5 : Int))).setCell (p := ⟨w.heap.size + 1 + 1, 6, none⟩) (show w.heap.size ≤ w.heap.size + 1 + 1 by omega) (.int .u64 (limN (a + b) 6 : Int))).setCell (p := ⟨w.heap.size + 1 + 1, 7, none⟩) (show w.heap.size ≤ w.heap.size + 1 + 1 by omega) (.int .u64 (limN (a + b) 7 : Int)))⟩
theorem halves_ret (a : Nat) : Ret Tryz.prog 175 #[wv a] (.agg #[.int .u64 (lim a 0), .int .u64 (lim a 1), .int .u64 0, .int .u64 0, .int .u64 (lim a 2), .int .u64 (lim a 3), .int .u64 0, .int .u64 0]) := by
 intro w
 have A0 := (Arr4.mk4' w 24 (lim a)).alloc (.cells #[.int .u64 0, .int .u64 0, .int .u64 0, .int .u64 0, .int .u64 0, .int .u64 0, .int .u64 0, .int .u64 0] 164)
 have LO : Limbs ((w.alloc (.cells #[.int .u64 (lim a 0), .int .u64 (lim a 1), .int .u64 (lim a 2), .int .u64 (lim a 3)] 24)).alloc (.cells #[.int .u64 0, .int .u64 0, .int .u64 0, .int .u64 0, .int .u64 0, .int .u64 0, .int .u64 0, .int .u64 0] 164)) (w.alloc (.cells #[.int .u64 (lim a 0), .int .u64 (lim a 1), .int .u64 (lim a 2), .int .u64 (lim a 3)] 24)).heap.size 164 8 (fun _ => 0) := ⟨_, World.alloc_heap_new _ _, rfl, fun j hj => by
  rcases (show j = 0 ∨ j = 1 ∨ j = 2 ∨ j = 3 ∨ j = 4 ∨ j = 5 ∨ j = 6 ∨ j = 7 by omega) with rfl | rfl | rfl | rfl | rfl | rfl | rfl | rfl <;> rfl⟩
 have B0 := ((Below.refl _ w).alloc (Nat.le_refl _) (.cells #[.int .u64 (lim a 0), .int .u64 (lim a 1), .int .u64 (lim a 2), .int .u64 (lim a 3)] 24)).alloc (by simp) (.cells #[.int .u64 0, .int .u64 0, .int .u64 0, .int .u64 0, .int .u64 0, .int .u64 0, .int .u64 0, .int .u64 0] 164)
 simp only [World.size_alloc] at LO
 unfold wv
 refine (callsIn_wide (n := 4)).1 ?_
 refine callsIn_of_wp_marks Tryz.func175 rfl trivial ?_ rfl
 simp only [Tryz.ntmps175, List.size_toArray, List.length_cons, List.length_nil, Nat.reduceAdd, Nat.reduceSub, Array.replicate_succ, Array.replicate_zero, List.push_toArray, List.append_toArray, List.nil_append, List.cons_append]
 clear LO B0
 have k0 := A0.cell (j := 0) (by omega)
 have k1 := A0.cell (j := 1) (by omega)
 have k2 := A0.cell (j := 2) (by omega)
 have k3 := A0.cell (j := 3) (by omega)
 clear A0
 gi_wp2
 exact ⟨_, by simp [results, Tryz.f175, go_sem], rfl, ((Below.refl _ w).alloc (Nat.le_refl _) _).alloc (by simp) _⟩
theorem lim_0 (n : Nat) : lim n 0 = ((n % 18446744073709551616 : Nat) : Int) := rfl
theorem lim_1 (n : Nat) : lim n 1 = ((n / 18446744073709551616 % 18446744073709551616 : Nat) : Int) := rfl
theorem lim_2 (n : Nat) : lim n 2 = ((n / 340282366920938463463374607431768211456 % 18446744073709551616 : Nat) : Int) := rfl
theorem lim_3 (n : Nat) : lim n 3 = ((n / 6277101735386680763835789423207666416102355444464034512896 % 18446744073709551616 : Nat) : Int) := rfl
theorem half_lims (a : Nat) (ha : W256 a) : (lim (a % 2 ^ 128) 0 = lim a 0 ∧ lim (a % 2 ^ 128) 1 = lim a 1 ∧ lim (a % 2 ^ 128) 2 = 0 ∧ lim (a % 2 ^ 128) 3 = 0) ∧ (lim (a / 2 ^ 128) 0 = lim a 2 ∧ lim (a / 2 ^ 128) 1 = lim a 3 ∧ lim (a / 2 ^ 128) 2 = 0 ∧ lim (a / 2 ^ 128) 3 = 0) := by
 unfold W256 at ha
 simp only [lim_0, lim_1, lim_2, lim_3]
 have e0 := Nat.div_add_mod a (2 ^ 128)
 have e1 : a % 2 ^ 128 < 2 ^ 128 := Nat.mod_lt _ (by decide)
 generalize a / 2 ^ 128 = q at *
 generalize a % 2 ^ 128 = r at *
 subst e0
 simp only [Nat.reducePow] at *
 refine ⟨⟨?_, ?_, ?_, ?_⟩, ?_, ?_, ?_, ?_⟩ <;> first | trivial | omega
theorem product_eq (a b : Nat) (ha : W256 a) (hb : W256 b) : 0 + wmod (a % 2 ^ 128 * (b % 2 ^ 128)) * 18446744073709551616 ^ 0 + wmod (a % 2 ^ 128 * (b / 2 ^ 128)) * 18446744073709551616 ^ 2 + wmod (a / 2 ^ 128 * (b % 2 ^ 128)) * 18446744073709551616 ^ 2 + wmod (a / 2 ^ 128 * (b / 2 ^ 128)) * 18446744073709551616 ^ 4 = a * b := by
 have h (x y : Nat) (hx : x < 2 ^ 128) (hy : y < 2 ^ 128) : wmod (x * y) = x * y := by
  unfold wmod
  refine Nat.mod_eq_of_lt ?_
  calc x * y < 2 ^ 128 * 2 ^ 128 := Nat.mul_lt_mul'' hx hy
   _ = _ := by decide
 have p0 : a % 2 ^ 128 < 2 ^ 128 := Nat.mod_lt _ (by decide)
 have q0 : b % 2 ^ 128 < 2 ^ 128 := Nat.mod_lt _ (by decide)
 have p1 : a / 2 ^ 128 < 2 ^ 128 := by unfold W256 at ha; omega
 have q1 : b / 2 ^ 128 < 2 ^ 128 := by unfold W256 at hb; omega
 rw [h _ _ p0 q0, h _ _ p0 q1, h _ _ p1 q0, h _ _ p1 q1]
 have ea : a = 2 ^ 128 * (a / 2 ^ 128) + a % 2 ^ 128 := (Nat.div_add_mod _ _).symm
 have eb : b = 2 ^ 128 * (b / 2 ^ 128) + b % 2 ^ 128 := (Nat.div_add_mod _ _).symm
 conv => rhs; rw [ea, eb]
 rw [show (18446744073709551616 : Nat) ^ 0 = 1 from rfl, show (18446744073709551616 : Nat) ^ 2 = 2 ^ 128 from by decide, show (18446744073709551616 : Nat) ^ 4 = 2 ^ 128 * 2 ^ 128 from by decide]
 generalize a / 2 ^ 128 = A
 generalize a % 2 ^ 128 = a'
 generalize b / 2 ^ 128 = B
 generalize b % 2 ^ 128 = b'
 generalize (2 : Nat) ^ 128 = p
 simp only [Nat.mul_add, Nat.add_mul, Nat.mul_one, Nat.zero_add]
 ac_rfl
theorem halves_ret' (a : Nat) (ha : W256 a) : Ret Tryz.prog 175 #[wv a] (.agg #[.int .u64 (lim (a % 2 ^ 128) 0), .int .u64 (lim (a % 2 ^ 128) 1), .int .u64 (lim (a % 2 ^ 128) 2), .int .u64 (lim (a % 2 ^ 128) 3), .int .u64 (lim (a / 2 ^ 128) 0), .int .u64 (lim (a / 2 ^ 128) 1), .int .u64 (lim (a / 2 ^ 128) 2), .int .u64 (lim (a / 2 ^ 128) 3)]) := by
 obtain ⟨⟨a0, a1, a2, a3⟩, b0, b1, b2, b3⟩ := half_lims a ha
 rw [a0, a1, a2, a3, b0, b1, b2, b3]
 exact halves_ret a
theorem product_any (a b : Nat) (ha : W256 a) (hb : W256 b) (w : World) :
  Calls Tryz.prog 158 #[wv a, wv b] w fun e w' => e = .returned (.agg #[.int .u64 (limN (a * b) 0 : Int), .int .u64 (limN (a * b) 1 : Int), .int .u64 (limN (a * b) 2 : Int), .int .u64 (limN (a * b) 3 : Int), .int .u64 (limN (a * b) 4 : Int), .int .u64 (limN (a * b) 5 : Int), .int .u64 (limN (a * b) 6 : Int), .int .u64 (limN (a * b) 7 : Int)]) ∧ Below w.heap.size w w' := by
 have A0 := (((Arr4.mk4' w 24 (lim a)).alloc (.cells #[.int .u64 (lim b 0), .int .u64 (lim b 1), .int .u64 (lim b 2), .int .u64 (lim b 3)] 24)).alloc (.cells #[.int .u64 0, .int .u64 0, .int .u64 0, .int .u64 0, .int .u64 0, .int .u64 0, .int .u64 0, .int .u64 0] 143)).alloc (.cells #[.int .u64 0, .int .u64 0, .int .u64 0, .int .u64 0, .int .u64 0, .int .u64 0, .int .u64 0, .int .u64 0] 143)
 have A1 := ((Arr4.mk4' (w.alloc (.cells #[.int .u64 (lim a 0), .int .u64 (lim a 1), .int .u64 (lim a 2), .int .u64 (lim a 3)] 24)) 24 (lim b)).alloc (.cells #[.int .u64 0, .int .u64 0, .int .u64 0, .int .u64 0, .int .u64 0, .int .u64 0, .int .u64 0, .int .u64 0] 143)).alloc (.cells #[.int .u64 0, .int .u64 0, .int .u64 0, .int .u64 0, .int .u64 0, .int .u64 0, .int .u64 0, .int .u64 0] 143)
 have LO : Limbs (((w.alloc (.cells #[.int .u64 (lim a 0), .int .u64 (lim a 1), .int .u64 (lim a 2), .int .u64 (lim a 3)] 24)).alloc (.cells #[.int .u64 (lim b 0), .int .u64 (lim b 1), .int .u64 (lim b 2), .int .u64 (lim b 3)] 24)).alloc (.cells #[.int .u64 0, .int .u64 0, .int .u64 0, .int .u64 0, .int .u64 0, .int .u64 0, .int .u64 0, .int .u64 0] 143)) ((w.alloc (.cells #[.int .u64 (lim a 0), .int .u64 (lim a 1), .int .u64 (lim a 2), .int .u64 (lim a 3)] 24)).alloc (.cells #[.int .u64 (lim b 0), .int .u64 (lim b 1), .int .u64 (lim b 2), .int .u64 (lim b 3)] 24)).heap.size 143 8 (fun _ => 0) := ⟨_, World.alloc_heap_new ((w.alloc (.cells #[.int .u64 (lim a 0), .int .u64 (lim a 1), .int .u64 (lim a 2), .int .u64 (lim a 3)] 24)).alloc (.cells #[.int .u64 (lim b 0), .int .u64 (lim b 1), .int .u64 (lim b 2), .int .u64 (lim b 3)] 24)) _, rfl, fun j hj => by
  rcases (show j = 0 ∨ j = 1 ∨ j = 2 ∨ j = 3 ∨ j = 4 ∨ j = 5 ∨ j = 6 ∨ j = 7 by omega) with rfl | rfl | rfl | rfl | rfl | rfl | rfl | rfl <;> rfl⟩
 have LO := LO.alloc (.cells #[.int .u64 0, .int .u64 0, .int .u64 0, .int .u64 0, .int .u64 0, .int .u64 0, .int .u64 0, .int .u64 0] 143)
 have LM : Limbs ((((w.alloc (.cells #[.int .u64 (lim a 0), .int .u64 (lim a 1), .int .u64 (lim a 2), .int .u64 (lim a 3)] 24)).alloc (.cells #[.int .u64 (lim b 0), .int .u64 (lim b 1), .int .u64 (lim b 2), .int .u64 (lim b 3)] 24)).alloc (.cells #[.int .u64 0, .int .u64 0, .int .u64 0, .int .u64 0, .int .u64 0, .int .u64 0, .int .u64 0, .int .u64 0] 143)).alloc (.cells #[.int .u64 0, .int .u64 0, .int .u64 0, .int .u64 0, .int .u64 0, .int .u64 0, .int .u64 0, .int .u64 0] 143)) (((w.alloc (.cells #[.int .u64 (lim a 0), .int .u64 (lim a 1), .int .u64 (lim a 2), .int .u64 (lim a 3)] 24)).alloc (.cells #[.int .u64 (lim b 0), .int .u64 (lim b 1), .int .u64 (lim b 2), .int .u64 (lim b 3)] 24)).alloc (.cells #[.int .u64 0, .int .u64 0, .int .u64 0, .int .u64 0, .int .u64 0, .int .u64 0, .int .u64 0, .int .u64 0] 143)).heap.size 143 8 (fun _ => 0) := ⟨_, World.alloc_heap_new (((w.alloc (.cells #[.int .u64 (lim a 0), .int .u64 (lim a 1), .int .u64 (lim a 2), .int .u64 (lim a 3)] 24)).alloc (.cells #[.int .u64 (lim b 0), .int .u64 (lim b 1), .int .u64 (lim b 2), .int .u64 (lim b 3)] 24)).alloc (.cells #[.int .u64 0, .int .u64 0, .int .u64 0, .int .u64 0, .int .u64 0, .int .u64 0, .int .u64 0, .int .u64 0] 143)) _, rfl, fun j hj => by
  rcases (show j = 0 ∨ j = 1 ∨ j = 2 ∨ j = 3 ∨ j = 4 ∨ j = 5 ∨ j = 6 ∨ j = 7 by omega) with rfl | rfl | rfl | rfl | rfl | rfl | rfl | rfl <;> rfl⟩
 have LM := LM.congr (m' := fun j => (limN 0 j : Int)) (fun j _ => (lim_limN 0 j rfl).symm)
 have B0 := ((((Below.refl _ w).alloc (Nat.le_refl _) (.cells #[.int .u64 (lim a 0), .int .u64 (lim a 1), .int .u64 (lim a 2), .int .u64 (lim a 3)] 24)).alloc (by simp) (.cells #[.int .u64 (lim b 0), .int .u64 (lim b 1), .int .u64 (lim b 2), .int .u64 (lim b 3)] 24)).alloc (by simp; omega) (.cells #[.int .u64 0, .int .u64 0, .int .u64 0, .int .u64 0, .int .u64 0, .int .u64 0, .int .u64 0, .int .u64 0] 143)).alloc (by simp; omega) (.cells #[.int .u64 0, .int .u64 0, .int .u64 0, .int .u64 0, .int .u64 0, .int .u64 0, .int .u64 0, .int .u64 0] 143)
 have s0 : ((((w.alloc (.cells #[.int .u64 (lim a 0), .int .u64 (lim a 1), .int .u64 (lim a 2), .int .u64 (lim a 3)] 24)).alloc (.cells #[.int .u64 (lim b 0), .int .u64 (lim b 1), .int .u64 (lim b 2), .int .u64 (lim b 3)] 24)).alloc (.cells #[.int .u64 0, .int .u64 0, .int .u64 0, .int .u64 0, .int .u64 0, .int .u64 0, .int .u64 0, .int .u64 0] 143)).alloc (.cells #[.int .u64 0, .int .u64 0, .int .u64 0, .int .u64 0, .int .u64 0, .int .u64 0, .int .u64 0, .int .u64 0] 143)).heap.size = w.heap.size + 4 := by simp
 simp only [World.size_alloc] at A1 LO LM
 have HA := halves_ret' a ha
 have HBb := halves_ret' b hb
 have ep := product_eq a b ha hb
 have x0 : W256 (a % 2 ^ 128) := Nat.lt_of_le_of_lt (Nat.mod_le _ _) ha
 have x1 : W256 (a / 2 ^ 128) := Nat.lt_of_le_of_lt (Nat.div_le_self _ _) ha
 have y0 : W256 (b % 2 ^ 128) := Nat.lt_of_le_of_lt (Nat.mod_le _ _) hb
 have y1 : W256 (b / 2 ^ 128) := Nat.lt_of_le_of_lt (Nat.div_le_self _ _) hb
 generalize (a % 2 ^ 128) = X0 at *
 generalize (a / 2 ^ 128) = X1 at *
 generalize (b % 2 ^ 128) = Y0 at *
 generalize (b / 2 ^ 128) = Y1 at *
 have M00 := mul_ret X0 Y0 x0 y0
 have M01 := mul_ret X0 Y1 x0 y1
 have M10 := mul_ret X1 Y0 x1 y0
 have M11 := mul_ret X1 Y1 x1 y1
 have r00 := wmod_lt (X0 * Y0)
 have r01 := wmod_lt (X0 * Y1)
 have r10 := wmod_lt (X1 * Y0)
 have r11 := wmod_lt (X1 * Y1)
 generalize wmod (X0 * Y0) = R00 at *
 generalize wmod (X0 * Y1) = R01 at *
 generalize wmod (X1 * Y0) = R10 at *
 generalize wmod (X1 * Y1) = R11 at *
 have P00 := fun W h => add8_any (w.heap.size + 1 + 1 + 1) 0 R00 0 r00 (by omega) W h
 have P01 := fun W h => add8_any (w.heap.size + 1 + 1 + 1) (0 + R00 * 18446744073709551616 ^ 0) R01 2 r01 (by omega) W h
 have P10 := fun W h => add8_any (w.heap.size + 1 + 1 + 1) (0 + R00 * 18446744073709551616 ^ 0 + R01 * 18446744073709551616 ^ 2) R10 2 r10 (by omega) W h
 have P11 := fun W h => add8_any (w.heap.size + 1 + 1 + 1) (0 + R00 * 18446744073709551616 ^ 0 + R01 * 18446744073709551616 ^ 2 + R10 * 18446744073709551616 ^ 2) R11 4 r11 (by omega) W h
 rw [ep] at P11
 generalize 0 + R00 * 18446744073709551616 ^ 0 + R01 * 18446744073709551616 ^ 2 + R10 * 18446744073709551616 ^ 2 = N3 at P10 P11
 generalize 0 + R00 * 18446744073709551616 ^ 0 + R01 * 18446744073709551616 ^ 2 = N2 at P01 P10
 generalize 0 + R00 * 18446744073709551616 ^ 0 = N1 at P00 P01
 clear ep x0 x1 y0 y1 r00 r01 r10 r11 ha hb
 have iX0 : ∀ w, (Instr.index 164 (.agg #[.int .u64 (lim X0 0), .int .u64 (lim X0 1), .int .u64 (lim X0 2), .int .u64 (lim X0 3), .int .u64 (lim X1 0), .int .u64 (lim X1 1), .int .u64 (lim X1 2), .int .u64 (lim X1 3)]) (.int .i64 0)).run Tryz.prog w = .ok (.agg #[.int .u64 (lim X0 0), .int .u64 (lim X0 1), .int .u64 (lim X0 2), .int .u64 (lim X0 3)]) w := fun _ => by kernel_rfl
 have iX1 : ∀ w, (Instr.index 164 (.agg #[.int .u64 (lim X0 0), .int .u64 (lim X0 1), .int .u64 (lim X0 2), .int .u64 (lim X0 3), .int .u64 (lim X1 0), .int .u64 (lim X1 1), .int .u64 (lim X1 2), .int .u64 (lim X1 3)]) (.int .i64 1)).run Tryz.prog w = .ok (.agg #[.int .u64 (lim X1 0), .int .u64 (lim X1 1), .int .u64 (lim X1 2), .int .u64 (lim X1 3)]) w := fun _ => by kernel_rfl
 have iY0 : ∀ w, (Instr.index 164 (.agg #[.int .u64 (lim Y0 0), .int .u64 (lim Y0 1), .int .u64 (lim Y0 2), .int .u64 (lim Y0 3), .int .u64 (lim Y1 0), .int .u64 (lim Y1 1), .int .u64 (lim Y1 2), .int .u64 (lim Y1 3)]) (.int .i64 0)).run Tryz.prog w = .ok (.agg #[.int .u64 (lim Y0 0), .int .u64 (lim Y0 1), .int .u64 (lim Y0 2), .int .u64 (lim Y0 3)]) w := fun _ => by kernel_rfl
 have iY1 : ∀ w, (Instr.index 164 (.agg #[.int .u64 (lim Y0 0), .int .u64 (lim Y0 1), .int .u64 (lim Y0 2), .int .u64 (lim Y0 3), .int .u64 (lim Y1 0), .int .u64 (lim Y1 1), .int .u64 (lim Y1 2), .int .u64 (lim Y1 3)]) (.int .i64 1)).run Tryz.prog w = .ok (.agg #[.int .u64 (lim Y1 0), .int .u64 (lim Y1 1), .int .u64 (lim Y1 2), .int .u64 (lim Y1 3)]) w := fun _ => by kernel_rfl
 unfold wv at P00 P01 P10 P11 M00 M01 M10 M11 HA HBb ⊢
 refine (callsIn_wide (n := 4)).1 ?_
 refine callsIn_of_wp_marks Tryz.func158 rfl trivial ?_ rfl
 simp only [Tryz.ntmps158, List.size_toArray, List.length_cons, List.length_nil, Nat.reduceAdd, Nat.reduceSub, Array.replicate_succ, Array.replicate_zero, List.push_toArray, List.append_toArray, List.nil_append, List.cons_append]
 have k0 := A0.cell (j := 0) (by omega)
 have k1 := A0.cell (j := 1) (by omega)
 have k2 := A0.cell (j := 2) (by omega)
 have k3 := A0.cell (j := 3) (by omega)
 gi_wp2_with fail
 obtain ⟨W0, hW0⟩ : ∃ W0, ((((w.alloc (.cells #[.int .u64 (lim a 0), .int .u64 (lim a 1), .int .u64 (lim a 2), .int .u64 (lim a 3)] 24)).alloc (.cells #[.int .u64 (lim b 0), .int .u64 (lim b 1), .int .u64 (lim b 2), .int .u64 (lim b 3)] 24)).alloc (.cells #[.int .u64 0, .int .u64 0, .int .u64 0, .int .u64 0, .int .u64 0, .int .u64 0, .int .u64 0, .int .u64 0] 143)).alloc (.cells #[.int .u64 0, .int .u64 0, .int .u64 0, .int .u64 0, .int .u64 0, .int .u64 0, .int .u64 0, .int .u64 0] 143)) = W0 := ⟨_, rfl⟩
 rw [hW0] at A0 A1 LO LM B0 k0 k1 k2 k3 s0 ⊢
 clear hW0 k0 k1 k2 k3 A0
 refine (callsIn_free free_wide (HA W0)).mono ?_
 rintro e V ⟨rfl, q⟩
 have A1 := A1.later' q
 have LO := LO.later q
 have LM := LM.later q
 have B0 := B0.trans (q.mono B0.size)
 have hs : w.heap.size + 4 ≤ V.heap.size := by have := q.size; omega
 clear q s0
 gi_wp2_with fail
 refine wpIn_loop_rounds 3 ?_
 rw [roundsIn_succ]
 have B1 := B0.alloc (by omega) (.cells #[.int .u64 (lim X0 0), .int .u64 (lim X0 1), .int .u64 (lim X0 2), .int .u64 (lim X0 3)] 24)
 have A2 := A1.alloc (.cells #[.int .u64 (lim X0 0), .int .u64 (lim X0 1), .int .u64 (lim X0 2), .int .u64 (lim X0 3)] 24)
 have AX := Arr4.mk4' V 24 (lim X0)
 have LO1 := LO.alloc (.cells #[.int .u64 (lim X0 0), .int .u64 (lim X0 1), .int .u64 (lim X0 2), .int .u64 (lim X0 3)] 24)
 have LM1 := LM.alloc (.cells #[.int .u64 (lim X0 0), .int .u64 (lim X0 1), .int .u64 (lim X0 2), .int .u64 (lim X0 3)] 24)
 have k0 := A2.cell (j := 0) (by omega)
 have k1 := A2.cell (j := 1) (by omega)
 have k2 := A2.cell (j := 2) (by omega)
 have k3 := A2.cell (j := 3) (by omega)
 gi_wp2_with fail
 clear k0 k1 k2 k3
 refine (callsIn_free free_wide (HBb _)).mono ?_
 rintro e Z ⟨rfl, q⟩
 have A1 := A2.later' q
 have LO := LO1.later q
 have LM := LM1.later q
 have AX := AX.later' q
 have B0 := B1.trans (q.mono B1.size)
 have hs1 : V.heap.size + 1 ≤ Z.heap.size := by have := q.size; simp at this; omega
 clear q B1 A2 LO1 LM1
 obtain ⟨bx, hbx⟩ : ∃ bx, V.heap.size = bx := ⟨_, rfl⟩
 have hx4 : w.heap.size + 4 ≤ bx := by omega
 rw [hbx] at AX hs1
 gi_wp2_with fail
 clear hbx hs
 refine wpIn_loop_rounds 3 ?_
 rw [roundsIn_succ]
 have HX := Lib.hid (AX.alloc (.cells #[.int .u64 (lim Y0 0), .int .u64 (lim Y0 1), .int .u64 (lim Y0 2), .int .u64 (lim Y0 3)] 24))
 have k0 := HX.out.cell (j := 0) (by omega)
 have k1 := HX.out.cell (j := 1) (by omega)
 have k2 := HX.out.cell (j := 2) (by omega)
 have k3 := HX.out.cell (j := 3) (by omega)
 gi_wp2_with fail
 clear k0 k1 k2 k3
 refine (callsIn_free free_wide (M00 _)).mono ?_
 rintro e V ⟨rfl, q⟩
 have AX := HX.out.later' q
 have A1 := (A1.alloc (.cells #[.int .u64 (lim Y0 0), .int .u64 (lim Y0 1), .int .u64 (lim Y0 2), .int .u64 (lim Y0 3)] 24)).later' q
 have LO := (LO.alloc (.cells #[.int .u64 (lim Y0 0), .int .u64 (lim Y0 1), .int .u64 (lim Y0 2), .int .u64 (lim Y0 3)] 24)).later q
 have LM := (LM.alloc (.cells #[.int .u64 (lim Y0 0), .int .u64 (lim Y0 1), .int .u64 (lim Y0 2), .int .u64 (lim Y0 3)] 24)).later q
 have B1 := B0.alloc (by omega) (.cells #[.int .u64 (lim Y0 0), .int .u64 (lim Y0 1), .int .u64 (lim Y0 2), .int .u64 (lim Y0 3)] 24)
 have B0 := B1.trans (q.mono B1.size)
 have hs2 : bx + 1 ≤ V.heap.size := by have := q.size; simp at this; omega
 clear q B1 HX hs1
 gi_wp2_with fail
 refine (callsIn_free free_wide (P00 V LM)).mono ?_
 rintro e V' ⟨rfl, LV, g⟩
 have AX := AX.kept g (fun e => by injection e with e; omega)
 have A1 := A1.kept g (fun e => by injection e with e; omega)
 have LO := LO.kept g (fun e => by injection e with e; omega)
 have LM := LV
 have B0 := below_then_grown B0 g (by omega) B0.size
 have hs1 : bx + 1 ≤ V'.heap.size := Nat.le_trans hs2 g.size
 clear g hs2 LV
 gi_wp2_with fail
 rw [roundsIn_succ]
 have HX := Lib.hid (AX.alloc (.cells #[.int .u64 (lim Y1 0), .int .u64 (lim Y1 1), .int .u64 (lim Y1 2), .int .u64 (lim Y1 3)] 24))
 have k0 := HX.out.cell (j := 0) (by omega)
 have k1 := HX.out.cell (j := 1) (by omega)
 have k2 := HX.out.cell (j := 2) (by omega)
 have k3 := HX.out.cell (j := 3) (by omega)
 gi_wp2_with fail
 clear k0 k1 k2 k3
 refine (callsIn_free free_wide (M01 _)).mono ?_
 rintro e V ⟨rfl, q⟩
 have AX := HX.out.later' q
 have A1 := (A1.alloc (.cells #[.int .u64 (lim Y1 0), .int .u64 (lim Y1 1), .int .u64 (lim Y1 2), .int .u64 (lim Y1 3)] 24)).later' q
 have LO := (LO.alloc (.cells #[.int .u64 (lim Y1 0), .int .u64 (lim Y1 1), .int .u64 (lim Y1 2), .int .u64 (lim Y1 3)] 24)).later q
 have LM := (LM.alloc (.cells #[.int .u64 (lim Y1 0), .int .u64 (lim Y1 1), .int .u64 (lim Y1 2), .int .u64 (lim Y1 3)] 24)).later q
 have B1 := B0.alloc (by omega) (.cells #[.int .u64 (lim Y1 0), .int .u64 (lim Y1 1), .int .u64 (lim Y1 2), .int .u64 (lim Y1 3)] 24)
 have B0 := B1.trans (q.mono B1.size)
 have hs2 : bx + 1 ≤ V.heap.size := by have := q.size; simp at this; omega
 clear q B1 HX hs1
 gi_wp2_with fail
 refine (callsIn_free free_wide (P01 V LM)).mono ?_
 rintro e V' ⟨rfl, LV, g⟩
 have AX := AX.kept g (fun e => by injection e with e; omega)
 have A1 := A1.kept g (fun e => by injection e with e; omega)
 have LO := LO.kept g (fun e => by injection e with e; omega)
 have LM := LV
 have B0 := below_then_grown B0 g (by omega) B0.size
 have hs1 : bx + 1 ≤ V'.heap.size := Nat.le_trans hs2 g.size
 clear g hs2 LV
 gi_wp2_with fail
 rw [roundsIn_succ]
 gi_wp2_with fail
 have hs : w.heap.size + 4 ≤ V'.heap.size := by omega
 clear hs1 hx4 AX
 rw [roundsIn_succ]
 have B1 := B0.alloc (by omega) (.cells #[.int .u64 (lim X1 0), .int .u64 (lim X1 1), .int .u64 (lim X1 2), .int .u64 (lim X1 3)] 24)
 have A2 := A1.alloc (.cells #[.int .u64 (lim X1 0), .int .u64 (lim X1 1), .int .u64 (lim X1 2), .int .u64 (lim X1 3)] 24)
 have AX := Arr4.mk4' V' 24 (lim X1)
 have LO1 := LO.alloc (.cells #[.int .u64 (lim X1 0), .int .u64 (lim X1 1), .int .u64 (lim X1 2), .int .u64 (lim X1 3)] 24)
 have LM1 := LM.alloc (.cells #[.int .u64 (lim X1 0), .int .u64 (lim X1 1), .int .u64 (lim X1 2), .int .u64 (lim X1 3)] 24)
 have k0 := A2.cell (j := 0) (by omega)
 have k1 := A2.cell (j := 1) (by omega)
 have k2 := A2.cell (j := 2) (by omega)
 have k3 := A2.cell (j := 3) (by omega)
 gi_wp2_with fail
 clear k0 k1 k2 k3
 refine (callsIn_free free_wide (HBb _)).mono ?_
 rintro e Z ⟨rfl, q⟩
 have A1 := A2.later' q
 have LO := LO1.later q
 have LM := LM1.later q
 have AX := AX.later' q
 have B0 := B1.trans (q.mono B1.size)
 have hs1 : V'.heap.size + 1 ≤ Z.heap.size := by have := q.size; simp at this; omega
 clear q B1 A2 LO1 LM1
 obtain ⟨bx, hbx⟩ : ∃ bx, V'.heap.size = bx := ⟨_, rfl⟩
 have hx4 : w.heap.size + 4 ≤ bx := by omega
 rw [hbx] at AX hs1
 gi_wp2_with fail
 clear hbx hs
 refine wpIn_loop_rounds 3 ?_
 rw [roundsIn_succ]
 have HX := Lib.hid (AX.alloc (.cells #[.int .u64 (lim Y0 0), .int .u64 (lim Y0 1), .int .u64 (lim Y0 2), .int .u64 (lim Y0 3)] 24))
 have k0 := HX.out.cell (j := 0) (by omega)
 have k1 := HX.out.cell (j := 1) (by omega)
 have k2 := HX.out.cell (j := 2) (by omega)
 have k3 := HX.out.cell (j := 3) (by omega)
 gi_wp2_with fail
 clear k0 k1 k2 k3
 refine (callsIn_free free_wide (M10 _)).mono ?_
 rintro e V ⟨rfl, q⟩
 have AX := HX.out.later' q
 have A1 := (A1.alloc (.cells #[.int .u64 (lim Y0 0), .int .u64 (lim Y0 1), .int .u64 (lim Y0 2), .int .u64 (lim Y0 3)] 24)).later' q
 have LO := (LO.alloc (.cells #[.int .u64 (lim Y0 0), .int .u64 (lim Y0 1), .int .u64 (lim Y0 2), .int .u64 (lim Y0 3)] 24)).later q
 have LM := (LM.alloc (.cells #[.int .u64 (lim Y0 0), .int .u64 (lim Y0 1), .int .u64 (lim Y0 2), .int .u64 (lim Y0 3)] 24)).later q
 have B1 := B0.alloc (by omega) (.cells #[.int .u64 (lim Y0 0), .int .u64 (lim Y0 1), .int .u64 (lim Y0 2), .int .u64 (lim Y0 3)] 24)
 have B0 := B1.trans (q.mono B1.size)
 have hs2 : bx + 1 ≤ V.heap.size := by have := q.size; simp at this; omega
 clear q B1 HX hs1
 gi_wp2_with fail
 refine (callsIn_free free_wide (P10 V LM)).mono ?_
 rintro e V' ⟨rfl, LV, g⟩
 have AX := AX.kept g (fun e => by injection e with e; omega)
 have A1 := A1.kept g (fun e => by injection e with e; omega)
 have LO := LO.kept g (fun e => by injection e with e; omega)
 have LM := LV
 have B0 := below_then_grown B0 g (by omega) B0.size
 have hs1 : bx + 1 ≤ V'.heap.size := Nat.le_trans hs2 g.size
 clear g hs2 LV
 gi_wp2_with fail
 rw [roundsIn_succ]
 have HX := Lib.hid (AX.alloc (.cells #[.int .u64 (lim Y1 0), .int .u64 (lim Y1 1), .int .u64 (lim Y1 2), .int .u64 (lim Y1 3)] 24))
 have k0 := HX.out.cell (j := 0) (by omega)
 have k1 := HX.out.cell (j := 1) (by omega)
 have k2 := HX.out.cell (j := 2) (by omega)
 have k3 := HX.out.cell (j := 3) (by omega)
 gi_wp2_with fail
 clear k0 k1 k2 k3
 refine (callsIn_free free_wide (M11 _)).mono ?_
 rintro e V ⟨rfl, q⟩
 have AX := HX.out.later' q
 have A1 := (A1.alloc (.cells #[.int .u64 (lim Y1 0), .int .u64 (lim Y1 1), .int .u64 (lim Y1 2), .int .u64 (lim Y1 3)] 24)).later' q
 have LO := (LO.alloc (.cells #[.int .u64 (lim Y1 0), .int .u64 (lim Y1 1), .int .u64 (lim Y1 2), .int .u64 (lim Y1 3)] 24)).later q
 have LM := (LM.alloc (.cells #[.int .u64 (lim Y1 0), .int .u64 (lim Y1 1), .int .u64 (lim Y1 2), .int .u64 (lim Y1 3)] 24)).later q
 have B1 := B0.alloc (by omega) (.cells #[.int .u64 (lim Y1 0), .int .u64 (lim Y1 1), .int .u64 (lim Y1 2), .int .u64 (lim Y1 3)] 24)
 have B0 := B1.trans (q.mono B1.size)
 have hs2 : bx + 1 ≤ V.heap.size := by have := q.size; simp at this; omega
 clear q B1 HX hs1
 gi_wp2_with fail
 refine (callsIn_free free_wide (P11 V LM)).mono ?_
 rintro e V' ⟨rfl, LV, g⟩
 have AX := AX.kept g (fun e => by injection e with e; omega)
 have A1 := A1.kept g (fun e => by injection e with e; omega)
 have LO := LO.kept g (fun e => by injection e with e; omega)
 have LM := LV
 have B0 := below_then_grown B0 g (by omega) B0.size
 have hs1 : bx + 1 ≤ V'.heap.size := Nat.le_trans hs2 g.size
 clear g hs2 LV
 gi_wp2_with fail
 rw [roundsIn_succ]
 gi_wp2_with fail
 rw [roundsIn_succ]
 have c0 := LM.cell (j := 0) (by omega)
 have d0 := LO.cell (j := 0) (by omega)
 have f0 := LO.frozen 0
 have c1 := LM.cell (j := 1) (by omega)
 have d1 := LO.cell (j := 1) (by omega)
 have f1 := LO.frozen 1
 have c2 := LM.cell (j := 2) (by omega)
 have d2 := LO.cell (j := 2) (by omega)
 have f2 := LO.frozen 2
 have c3 := LM.cell (j := 3) (by omega)
 have d3 := LO.cell (j := 3) (by omega)
 have f3 := LO.frozen 3
 have c4 := LM.cell (j := 4) (by omega)
 have d4 := LO.cell (j := 4) (by omega)
 have f4 := LO.frozen 4
 have c5 := LM.cell (j := 5) (by omega)
 have d5 := LO.cell (j := 5) (by omega)
 have f5 := LO.frozen 5
 have c6 := LM.cell (j := 6) (by omega)
 have d6 := LO.cell (j := 6) (by omega)
 have f6 := LO.frozen 6
 have c7 := LM.cell (j := 7) (by omega)
 have d7 := LO.cell (j := 7) (by omega)
 have f7 := LO.frozen 7
 have HL := Lib.hid LO
 have HB := Lib.hid B0
 clear LO LM B0 A1 AX hs1 hx4
 gi_wp2
 have LS := HL.out.set (k := 0) (by omega) (limN (a * b) 0 : Int)
 have LS := LS.set (k := 1) (by omega) (limN (a * b) 1 : Int)
 have LS := LS.set (k := 2) (by omega) (limN (a * b) 2 : Int)
 have LS := LS.set (k := 3) (by omega) (limN (a * b) 3 : Int)
 have LS := LS.set (k := 4) (by omega) (limN (a * b) 4 : Int)
 have LS := LS.set (k := 5) (by omega) (limN (a * b) 5 : Int)
 have LS := LS.set (k := 6) (by omega) (limN (a * b) 6 : Int)
 have LS := LS.set (k := 7) (by omega) (limN (a * b) 7 : Int)
 have LS := LS.congr (m' := fun j => (limN (a * b) j : Int)) (fun j hj => by
  rcases (show j = 0 ∨ j = 1 ∨ j = 2 ∨ j = 3 ∨ j = 4 ∨ j = 5 ∨ j = 6 ∨ j = 7 by omega) with rfl | rfl | rfl | rfl | rfl | rfl | rfl | rfl <;> simp)
 clear c0 d0 f0
 clear c1 d1 f1
 clear c2 d2 f2
 clear c3 d3 f3
 clear c4 d4 f4
 clear c5 d5 f5
 clear c6 d6 f6
 clear c7 d7 f7
 have e0 := LS.cell (j := 0) (by omega)
 have e1 := LS.cell (j := 1) (by omega)
 have e2 := LS.cell (j := 2) (by omega)
 have e3 := LS.cell (j := 3) (by omega)
 have e4 := LS.cell (j := 4) (by omega)
 have e5 := LS.cell (j := 5) (by omega)
 have e6 := LS.cell (j := 6) (by omega)
 have e7 := LS.cell (j := 7) (by omega)
 clear LS
 exact ⟨_, by simp [results, Tryz.f158, go_sem, e0, e1, e2, e3, e4, e5, e6, e7], rfl, ((((((((HB.out.setCell (p := ⟨w.heap.size + 1 + 1, 0, none⟩) (show w.heap.size ≤ w.heap.size + 1 + 1 by omega) (.int .u64 (limN (a * b) 0 : Int))).setCell (p := ⟨w.heap.size + 1 + 1, 1, none⟩) (show w.heap.size ≤ w.heap.size + 1 + 1 by omega) (.int .u64 (limN (a * b) 1 : Int))).setCell (p := ⟨w.heap.size + 1 + 1, 2, none⟩) (show w.heap.size ≤ w.heap.size + 1 + 1 by omega) (.int .u64 (limN (a * b) 2 : Int))).setCell (p := ⟨w.heap.size + 1 + 1, 3, none⟩) (show w.heap.size ≤ w.heap.size + 1 + 1 by omega) (.int .u64 (limN (a * b) 3 : Int))).setCell (p := ⟨w.heap.size + 1 + 1, 4, none⟩) (show w.heap.size ≤ w.heap.size + 1 + 1 by omega) (.int .u64 (limN (a * b) 4 : Int))).setCell (p := ⟨w.heap.size + 1 + 1, 5, none⟩) (show w.heap.size ≤ w.heap.size + 1 + 1 by omega) (.int .u64 (limN (a * b) 5 : Int))).setCell (p := ⟨w.heap.size + 1 + 1, 6, none⟩) (show w.heap.size ≤ w.heap.size + 1 + 1 by omega) (.int .u64 (limN (a * b) 6 : Int))).setCell (p := ⟨w.heap.size + 1 + 1, 7, none⟩) (show w.heap.size ≤ w.heap.size + 1 + 1 by omega) (.int .u64 (limN (a * b) 7 : Int)))⟩
end Go.Proofs.YtnkhmgmganejmaaGreatDoor
