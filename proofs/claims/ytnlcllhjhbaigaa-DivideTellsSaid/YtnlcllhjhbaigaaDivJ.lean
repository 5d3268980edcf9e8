/- Long numbers divided by 0; whole sums of two words. -/
import Derived.Test.YtnlcllhjhbaigaaDivEi
import Derived.Test.YtnlcllhjhbaigaaDivG
import Derived.Test.YtnlcllhjhbaigaaDivH
namespace Go.Proofs.Ytnlcllhjhbaigaa
open Go Go.RowKit Go.Shelf
attribute [local go_sem] Oper.semAt_some Grows wide_fn

set_option maxRecDepth 100000 in
set_option maxHeartbeats 4000000 in
theorem divide8_zero (a : Nat → Int) (w : World) :
    Calls Try.prog 29 #[.agg #[.int .u64 (a 0), .int .u64 (a 1), .int .u64 (a 2), .int .u64 (a 3), .int .u64 (a 4), .int .u64 (a 5), .int .u64 (a 6), .int .u64 (a 7)], .agg #[.int .u64 0, .int .u64 0, .int .u64 0, .int .u64 0]] w fun e w' => e = .returned (.tuple #[.agg #[.int .u64 0, .int .u64 0, .int .u64 0, .int .u64 0, .int .u64 0, .int .u64 0, .int .u64 0, .int .u64 0], .agg #[.int .u64 0, .int .u64 0, .int .u64 0, .int .u64 0]]) ∧ Below w.heap.size w w' := by
  have LQ : Limbs (((w.alloc (.cells #[.int .u64 (a 0), .int .u64 (a 1), .int .u64 (a 2), .int .u64 (a 3), .int .u64 (a 4), .int .u64 (a 5), .int .u64 (a 6), .int .u64 (a 7)] 43)).alloc (.cells #[.int .u64 0, .int .u64 0, .int .u64 0, .int .u64 0] 24)).alloc (.cells #[.int .u64 0, .int .u64 0, .int .u64 0, .int .u64 0, .int .u64 0, .int .u64 0, .int .u64 0, .int .u64 0] 43)) ((w.alloc (.cells #[.int .u64 (a 0), .int .u64 (a 1), .int .u64 (a 2), .int .u64 (a 3), .int .u64 (a 4), .int .u64 (a 5), .int .u64 (a 6), .int .u64 (a 7)] 43)).alloc (.cells #[.int .u64 0, .int .u64 0, .int .u64 0, .int .u64 0] 24)).heap.size 43 8 (fun _ => 0) := ⟨_, World.alloc_heap_new ((w.alloc (.cells #[.int .u64 (a 0), .int .u64 (a 1), .int .u64 (a 2), .int .u64 (a 3), .int .u64 (a 4), .int .u64 (a 5), .int .u64 (a 6), .int .u64 (a 7)] 43)).alloc (.cells #[.int .u64 0, .int .u64 0, .int .u64 0, .int .u64 0] 24)) _, rfl, fun j hj => by
    rcases (show j = 0 ∨ j = 1 ∨ j = 2 ∨ j = 3 ∨ j = 4 ∨ j = 5 ∨ j = 6 ∨ j = 7 by omega) with rfl | rfl | rfl | rfl | rfl | rfl | rfl | rfl <;> rfl⟩
  have AR := Arr4.mk0' (((w.alloc (.cells #[.int .u64 (a 0), .int .u64 (a 1), .int .u64 (a 2), .int .u64 (a 3), .int .u64 (a 4), .int .u64 (a 5), .int .u64 (a 6), .int .u64 (a 7)] 43)).alloc (.cells #[.int .u64 0, .int .u64 0, .int .u64 0, .int .u64 0] 24)).alloc (.cells #[.int .u64 0, .int .u64 0, .int .u64 0, .int .u64 0, .int .u64 0, .int .u64 0, .int .u64 0, .int .u64 0] 43)) 24
  have LD := Limbs.of4 (show Arr4 (((((w.alloc (.cells #[.int .u64 (a 0), .int .u64 (a 1), .int .u64 (a 2), .int .u64 (a 3), .int .u64 (a 4), .int .u64 (a 5), .int .u64 (a 6), .int .u64 (a 7)] 43)).alloc (.cells #[.int .u64 0, .int .u64 0, .int .u64 0, .int .u64 0] 24)).alloc (.cells #[.int .u64 0, .int .u64 0, .int .u64 0, .int .u64 0, .int .u64 0, .int .u64 0, .int .u64 0, .int .u64 0] 43)).alloc (.cells #[.int .u64 0, .int .u64 0, .int .u64 0, .int .u64 0] 24)).alloc (.cells #[.int .u64 0, .int .u64 0, .int .u64 0, .int .u64 0] 33)) ((((w.alloc (.cells #[.int .u64 (a 0), .int .u64 (a 1), .int .u64 (a 2), .int .u64 (a 3), .int .u64 (a 4), .int .u64 (a 5), .int .u64 (a 6), .int .u64 (a 7)] 43)).alloc (.cells #[.int .u64 0, .int .u64 0, .int .u64 0, .int .u64 0] 24)).alloc (.cells #[.int .u64 0, .int .u64 0, .int .u64 0, .int .u64 0, .int .u64 0, .int .u64 0, .int .u64 0, .int .u64 0] 43)).alloc (.cells #[.int .u64 0, .int .u64 0, .int .u64 0, .int .u64 0] 24)).heap.size 33 (fun _ => 0) from World.alloc_heap_new ((((w.alloc (.cells #[.int .u64 (a 0), .int .u64 (a 1), .int .u64 (a 2), .int .u64 (a 3), .int .u64 (a 4), .int .u64 (a 5), .int .u64 (a 6), .int .u64 (a 7)] 43)).alloc (.cells #[.int .u64 0, .int .u64 0, .int .u64 0, .int .u64 0] 24)).alloc (.cells #[.int .u64 0, .int .u64 0, .int .u64 0, .int .u64 0, .int .u64 0, .int .u64 0, .int .u64 0, .int .u64 0] 43)).alloc (.cells #[.int .u64 0, .int .u64 0, .int .u64 0, .int .u64 0] 24)) _)
  have LQ := (LQ.alloc (.cells #[.int .u64 0, .int .u64 0, .int .u64 0, .int .u64 0] 24)).alloc (.cells #[.int .u64 0, .int .u64 0, .int .u64 0, .int .u64 0] 33)
  have AR := AR.alloc (.cells #[.int .u64 0, .int .u64 0, .int .u64 0, .int .u64 0] 33)
  have B0 := (((((Below.refl _ w).alloc (Nat.le_refl _) (.cells #[.int .u64 (a 0), .int .u64 (a 1), .int .u64 (a 2), .int .u64 (a 3), .int .u64 (a 4), .int .u64 (a 5), .int .u64 (a 6), .int .u64 (a 7)] 43)).alloc (by simp) (.cells #[.int .u64 0, .int .u64 0, .int .u64 0, .int .u64 0] 24)).alloc (by simp; omega) (.cells #[.int .u64 0, .int .u64 0, .int .u64 0, .int .u64 0, .int .u64 0, .int .u64 0, .int .u64 0, .int .u64 0] 43)).alloc (by simp; omega) (.cells #[.int .u64 0, .int .u64 0, .int .u64 0, .int .u64 0] 24)).alloc (by simp; omega) (.cells #[.int .u64 0, .int .u64 0, .int .u64 0, .int .u64 0] 33)
  simp only [World.size_alloc] at LQ AR LD
  refine (callsIn_wide (n := 4)).1 ?_
  refine callsIn_of_wp_marks Try.func29 rfl trivial ?_ rfl
  simp only [Try.ntmps29, List.size_toArray, List.length_cons, List.length_nil, Nat.reduceAdd, Nat.reduceSub, Array.replicate_succ, Array.replicate_zero, List.push_toArray, List.append_toArray, List.nil_append, List.cons_append]
  gi_wp2_with fail
  obtain ⟨W0, hW0⟩ : ∃ W0, ((((w.alloc (.cells #[.int .u64 (a 0), .int .u64 (a 1), .int .u64 (a 2), .int .u64 (a 3), .int .u64 (a 4), .int .u64 (a 5), .int .u64 (a 6), .int .u64 (a 7)] 43)).alloc (.cells #[.int .u64 0, .int .u64 0, .int .u64 0, .int .u64 0] 24)).alloc (.cells #[.int .u64 0, .int .u64 0, .int .u64 0, .int .u64 0, .int .u64 0, .int .u64 0, .int .u64 0, .int .u64 0] 43)).alloc (.cells #[.int .u64 0, .int .u64 0, .int .u64 0, .int .u64 0] 24)).alloc (.cells #[.int .u64 0, .int .u64 0, .int .u64 0, .int .u64 0] 33) = W0 := ⟨_, rfl⟩
  rw [hW0] at LQ AR LD B0 ⊢
  clear hW0
  refine (callsIn_free free_wide (length4_any (w.heap.size + 1 + 1 + 1 + 1) 0 (fun _ => 0) (fun j _ => by simp) (by decide) W0 LD)).mono ?_
  rintro e w' ⟨⟨Lb, rfl, hLb, hLb9⟩, rfl⟩
  obtain rfl : Lb = 0 := hLb.2.1 rfl
  have HB := Lib.hid B0
  have hmx : Try.prog.follows .mixedOrders = true := by kernel_rfl
  have c0 := LQ.cell (j := 0) (by omega)
  have f0 := LQ.frozen 0
  have sc0 := setCell_same c0
  have c1 := LQ.cell (j := 1) (by omega)
  have f1 := LQ.frozen 1
  have sc1 := setCell_same c1
  have c2 := LQ.cell (j := 2) (by omega)
  have f2 := LQ.frozen 2
  have sc2 := setCell_same c2
  have c3 := LQ.cell (j := 3) (by omega)
  have f3 := LQ.frozen 3
  have sc3 := setCell_same c3
  have c4 := LQ.cell (j := 4) (by omega)
  have f4 := LQ.frozen 4
  have sc4 := setCell_same c4
  have c5 := LQ.cell (j := 5) (by omega)
  have f5 := LQ.frozen 5
  have sc5 := setCell_same c5
  have c6 := LQ.cell (j := 6) (by omega)
  have f6 := LQ.frozen 6
  have sc6 := setCell_same c6
  have c7 := LQ.cell (j := 7) (by omega)
  have f7 := LQ.frozen 7
  have sc7 := setCell_same c7
  have d0 := AR.cell (j := 0) (by omega)
  have g0 := AR.frozen 0
  have sd0 := setCell_same d0
  have d1 := AR.cell (j := 1) (by omega)
  have g1 := AR.frozen 1
  have sd1 := setCell_same d1
  have d2 := AR.cell (j := 2) (by omega)
  have g2 := AR.frozen 2
  have sd2 := setCell_same d2
  have d3 := AR.cell (j := 3) (by omega)
  have g3 := AR.frozen 3
  have sd3 := setCell_same d3
  clear hLb hLb9 LD LQ AR B0
  gi_wp2
  gi_region_o
  all_goals (try simp only [sc0, sc1, sc2, sc3, sc4, sc5, sc6, sc7, sd0, sd1, sd2, sd3])
  all_goals gi_wp2
  all_goals (try simp only [sc0, sc1, sc2, sc3, sc4, sc5, sc6, sc7, sd0, sd1, sd2, sd3])
  all_goals
    exact ⟨_, by simp [results, Try.f29, go_sem, c0, c1, c2, c3, c4, c5, c6, c7, d0, d1, d2, d3], rfl, HB.out.drew⟩

theorem below_then_grown {n B : Nat} {A W V : World} (h : Below n A W) (g : W.grownBy V (some B)) (hB : n ≤ B) (hn : n ≤ W.heap.size) : Below n A V :=
  ⟨g.os.trans h.os, g.tape.trans h.tape, g.output.trans h.output, Nat.le_trans h.size g.size, fun k hk => (g.block k (by omega) (fun e => by injection e with e; omega)).trans (h.block k hk)⟩

theorem lim_limN (M : Nat) (j : Nat) (h : M = 0) : (limN M j : Int) = 0 := by subst h; simp [limN]
set_option maxRecDepth 100000 in
set_option maxHeartbeats 4000000 in
theorem sum_any (a b : Nat) (ha : W256 a) (hb : W256 b) (w : World) :
    Calls Try.prog 30 #[wv a, wv b] w fun e w' => e = .returned (.agg #[.int .u64 (limN (a + b) 0 : Int), .int .u64 (limN (a + b) 1 : Int), .int .u64 (limN (a + b) 2 : Int), .int .u64 (limN (a + b) 3 : Int), .int .u64 (limN (a + b) 4 : Int), .int .u64 (limN (a + b) 5 : Int), .int .u64 (limN (a + b) 6 : Int), .int .u64 (limN (a + b) 7 : Int)]) ∧ Below w.heap.size w w' := by
  have A0 := (((Arr4.mk4' w 24 (lim a)).alloc (.cells #[.int .u64 (lim b 0), .int .u64 (lim b 1), .int .u64 (lim b 2), .int .u64 (lim b 3)] 24)).alloc (.cells #[.int .u64 0, .int .u64 0, .int .u64 0, .int .u64 0, .int .u64 0, .int .u64 0, .int .u64 0, .int .u64 0] 43)).alloc (.cells #[.int .u64 0, .int .u64 0, .int .u64 0, .int .u64 0, .int .u64 0, .int .u64 0, .int .u64 0, .int .u64 0] 43)
  have A1 := ((Arr4.mk4' (w.alloc (.cells #[.int .u64 (lim a 0), .int .u64 (lim a 1), .int .u64 (lim a 2), .int .u64 (lim a 3)] 24)) 24 (lim b)).alloc (.cells #[.int .u64 0, .int .u64 0, .int .u64 0, .int .u64 0, .int .u64 0, .int .u64 0, .int .u64 0, .int .u64 0] 43)).alloc (.cells #[.int .u64 0, .int .u64 0, .int .u64 0, .int .u64 0, .int .u64 0, .int .u64 0, .int .u64 0, .int .u64 0] 43)
  have LO : Limbs (((w.alloc (.cells #[.int .u64 (lim a 0), .int .u64 (lim a 1), .int .u64 (lim a 2), .int .u64 (lim a 3)] 24)).alloc (.cells #[.int .u64 (lim b 0), .int .u64 (lim b 1), .int .u64 (lim b 2), .int .u64 (lim b 3)] 24)).alloc (.cells #[.int .u64 0, .int .u64 0, .int .u64 0, .int .u64 0, .int .u64 0, .int .u64 0, .int .u64 0, .int .u64 0] 43)) ((w.alloc (.cells #[.int .u64 (lim a 0), .int .u64 (lim a 1), .int .u64 (lim a 2), .int .u64 (lim a 3)] 24)).alloc (.cells #[.int .u64 (lim b 0), .int .u64 (lim b 1), .int .u64 (lim b 2), .int .u64 (lim b 3)] 24)).heap.size 43 8 (fun _ => 0) := ⟨_, World.alloc_heap_new ((w.alloc (.cells #[.int .u64 (lim a 0), .int .u64 (lim a 1), .int .u64 (lim a 2), .int .u64 (lim a 3)] 24)).alloc (.cells #[.int .u64 (lim b 0), .int .u64 (lim b 1), .int .u64 (lim b 2), .int .u64 (lim b 3)] 24)) _, rfl, fun j hj => by
    rcases (show j = 0 ∨ j = 1 ∨ j = 2 ∨ j = 3 ∨ j = 4 ∨ j = 5 ∨ j = 6 ∨ j = 7 by omega) with rfl | rfl | rfl | rfl | rfl | rfl | rfl | rfl <;> rfl⟩
  have LO := LO.alloc (.cells #[.int .u64 0, .int .u64 0, .int .u64 0, .int .u64 0, .int .u64 0, .int .u64 0, .int .u64 0, .int .u64 0] 43)
  have LM : Limbs ((((w.alloc (.cells #[.int .u64 (lim a 0), .int .u64 (lim a 1), .int .u64 (lim a 2), .int .u64 (lim a 3)] 24)).alloc (.cells #[.int .u64 (lim b 0), .int .u64 (lim b 1), .int .u64 (lim b 2), .int .u64 (lim b 3)] 24)).alloc (.cells #[.int .u64 0, .int .u64 0, .int .u64 0, .int .u64 0, .int .u64 0, .int .u64 0, .int .u64 0, .int .u64 0] 43)).alloc (.cells #[.int .u64 0, .int .u64 0, .int .u64 0, .int .u64 0, .int .u64 0, .int .u64 0, .int .u64 0, .int .u64 0] 43)) (((w.alloc (.cells #[.int .u64 (lim a 0), .int .u64 (lim a 1), .int .u64 (lim a 2), .int .u64 (lim a 3)] 24)).alloc (.cells #[.int .u64 (lim b 0), .int .u64 (lim b 1), .int .u64 (lim b 2), .int .u64 (lim b 3)] 24)).alloc (.cells #[.int .u64 0, .int .u64 0, .int .u64 0, .int .u64 0, .int .u64 0, .int .u64 0, .int .u64 0, .int .u64 0] 43)).heap.size 43 8 (fun _ => 0) := ⟨_, World.alloc_heap_new (((w.alloc (.cells #[.int .u64 (lim a 0), .int .u64 (lim a 1), .int .u64 (lim a 2), .int .u64 (lim a 3)] 24)).alloc (.cells #[.int .u64 (lim b 0), .int .u64 (lim b 1), .int .u64 (lim b 2), .int .u64 (lim b 3)] 24)).alloc (.cells #[.int .u64 0, .int .u64 0, .int .u64 0, .int .u64 0, .int .u64 0, .int .u64 0, .int .u64 0, .int .u64 0] 43)) _, rfl, fun j hj => by
    rcases (show j = 0 ∨ j = 1 ∨ j = 2 ∨ j = 3 ∨ j = 4 ∨ j = 5 ∨ j = 6 ∨ j = 7 by omega) with rfl | rfl | rfl | rfl | rfl | rfl | rfl | rfl <;> rfl⟩
  have LM := LM.congr (m' := fun j => (limN 0 j : Int)) (fun j _ => (lim_limN 0 j rfl).symm)
  have B0 := ((((Below.refl _ w).alloc (Nat.le_refl _) (.cells #[.int .u64 (lim a 0), .int .u64 (lim a 1), .int .u64 (lim a 2), .int .u64 (lim a 3)] 24)).alloc (by simp) (.cells #[.int .u64 (lim b 0), .int .u64 (lim b 1), .int .u64 (lim b 2), .int .u64 (lim b 3)] 24)).alloc (by simp; omega) (.cells #[.int .u64 0, .int .u64 0, .int .u64 0, .int .u64 0, .int .u64 0, .int .u64 0, .int .u64 0, .int .u64 0] 43)).alloc (by simp; omega) (.cells #[.int .u64 0, .int .u64 0, .int .u64 0, .int .u64 0, .int .u64 0, .int .u64 0, .int .u64 0, .int .u64 0] 43)
  simp only [World.size_alloc] at A1 LO LM
  have P1 := fun W h => add8_any (w.heap.size + 1 + 1 + 1) 0 a 0 ha (by omega) W h
  have P2 := fun W h => add8_any (w.heap.size + 1 + 1 + 1) (0 + a * 18446744073709551616 ^ 0) b 0 hb (by omega) W h
  have es : 0 + a * 18446744073709551616 ^ 0 + b * 18446744073709551616 ^ 0 = a + b := by simp
  rw [es] at P2
  generalize 0 + a * 18446744073709551616 ^ 0 = a' at P1 P2
  clear es
  unfold wv at P1 P2 ⊢
  refine (callsIn_wide (n := 4)).1 ?_
  refine callsIn_of_wp_marks Try.func30 rfl trivial ?_ rfl
  simp only [Try.ntmps30, List.size_toArray, List.length_cons, List.length_nil, Nat.reduceAdd, Nat.reduceSub, Array.replicate_succ, Array.replicate_zero, List.push_toArray, List.append_toArray, List.nil_append, List.cons_append]
  have k0 := A0.cell (j := 0) (by omega)
  have k1 := A0.cell (j := 1) (by omega)
  have k2 := A0.cell (j := 2) (by omega)
  have k3 := A0.cell (j := 3) (by omega)
  gi_wp2_with fail
  obtain ⟨W0, hW0⟩ : ∃ W0, ((((w.alloc (.cells #[.int .u64 (lim a 0), .int .u64 (lim a 1), .int .u64 (lim a 2), .int .u64 (lim a 3)] 24)).alloc (.cells #[.int .u64 (lim b 0), .int .u64 (lim b 1), .int .u64 (lim b 2), .int .u64 (lim b 3)] 24)).alloc (.cells #[.int .u64 0, .int .u64 0, .int .u64 0, .int .u64 0, .int .u64 0, .int .u64 0, .int .u64 0, .int .u64 0] 43)).alloc (.cells #[.int .u64 0, .int .u64 0, .int .u64 0, .int .u64 0, .int .u64 0, .int .u64 0, .int .u64 0, .int .u64 0] 43)) = W0 := ⟨_, rfl⟩
  rw [hW0] at A0 A1 LO LM B0 k0 k1 k2 k3 ⊢
  clear hW0 k0 k1 k2 k3
  refine (callsIn_free free_wide (P1 W0 LM)).mono ?_
  rintro e V ⟨rfl, LV, g⟩
  have A1 := A1.kept g (fun e => by injection e with e; omega)
  have LO := LO.kept g (fun e => by injection e with e; omega)
  have k0 := A1.cell (j := 0) (by omega)
  have k1 := A1.cell (j := 1) (by omega)
  have k2 := A1.cell (j := 2) (by omega)
  have k3 := A1.cell (j := 3) (by omega)
  gi_wp2_with fail
  clear k0 k1 k2 k3
  refine (callsIn_free free_wide (P2 V LV)).mono ?_
  rintro e U ⟨rfl, LU, g'⟩
  have LO := LO.kept g' (fun e => by injection e with e; omega)
  have c0 := LU.cell (j := 0) (by omega)
  have d0 := LO.cell (j := 0) (by omega)
  have f0 := LO.frozen 0
  have c1 := LU.cell (j := 1) (by omega)
  have d1 := LO.cell (j := 1) (by omega)
  have f1 := LO.frozen 1
  have c2 := LU.cell (j := 2) (by omega)
  have d2 := LO.cell (j := 2) (by omega)
  have f2 := LO.frozen 2
  have c3 := LU.cell (j := 3) (by omega)
  have d3 := LO.cell (j := 3) (by omega)
  have f3 := LO.frozen 3
  have c4 := LU.cell (j := 4) (by omega)
  have d4 := LO.cell (j := 4) (by omega)
  have f4 := LO.frozen 4
  have c5 := LU.cell (j := 5) (by omega)
  have d5 := LO.cell (j := 5) (by omega)
  have f5 := LO.frozen 5
  have c6 := LU.cell (j := 6) (by omega)
  have d6 := LO.cell (j := 6) (by omega)
  have f6 := LO.frozen 6
  have c7 := LU.cell (j := 7) (by omega)
  have d7 := LO.cell (j := 7) (by omega)
  have f7 := LO.frozen 7
  have HL := Lib.hid LO
  have HB := Lib.hid (((below_then_grown B0 g (by omega) B0.size)).trans (below_then_grown (Below.refl _ V) g' (by omega) (Nat.le_trans B0.size g.size)))
  clear LO LU B0 g g' LV A0 A1 P1 P2 LM
  gi_wp2
  have LS := HL.out.set (k := 0) (by omega) (limN (a + b) 0 : Int)
  have LS := LS.set (k := 1) (by omega) (limN (a + b) 1 : Int)
  have LS := LS.set (k := 2) (by omega) (limN (a + b) 2 : Int)
  have LS := LS.set (k := 3) (by omega) (limN (a + b) 3 : Int)
  have LS := LS.set (k := 4) (by omega) (limN (a + b) 4 : Int)
  have LS := LS.set (k := 5) (by omega) (limN (a + b) 5 : Int)
  have LS := LS.set (k := 6) (by omega) (limN (a + b) 6 : Int)
  have LS := LS.set (k := 7) (by omega) (limN (a + b) 7 : Int)
  have LS := LS.congr (m' := fun j => (limN (a + b) j : Int)) (fun j hj => by
    rcases (show j = 0 ∨ j = 1 ∨ j = 2 ∨ j = 3 ∨ j = 4 ∨ j = 5 ∨ j = 6 ∨ j = 7 by omega) with rfl | rfl | rfl | rfl | rfl | rfl | rfl | rfl <;> simp)
  clear c0 d0 f0
  clear c1 d1 f1
  clear c2 d2 f2
  clear c3 d3 f3
  clear c4 d4 f4
  clear c5 d5 f5
  clear c6 d6 f6
  clear c7 d7 f7
  have e0 := LS.cell (j := 0) (by omega)
  have e1 := LS.cell (j := 1) (by omega)
  have e2 := LS.cell (j := 2) (by omega)
  have e3 := LS.cell (j := 3) (by omega)
  have e4 := LS.cell (j := 4) (by omega)
  have e5 := LS.cell (j := 5) (by omega)
  have e6 := LS.cell (j := 6) (by omega)
  have e7 := LS.cell (j := 7) (by omega)
  clear LS
  exact ⟨_, by simp [results, Try.f30, go_sem, e0, e1, e2, e3, e4, e5, e6, e7], rfl, ((((((((HB.out.setCell (p := ⟨w.heap.size + 1 + 1, 0, none⟩) (show w.heap.size ≤ w.heap.size + 1 + 1 by omega) (.int .u64 (limN (a + b) 0 : Int))).setCell (p := ⟨w.heap.size + 1 + 1, 1, none⟩) (show w.heap.size ≤ w.heap.size + 1 + 1 by omega) (.int .u64 (limN (a + b) 1 : Int))).setCell (p := ⟨w.heap.size + 1 + 1, 2, none⟩) (show w.heap.size ≤ w.heap.size + 1 + 1 by omega) (.int .u64 (limN (a + b) 2 : Int))).setCell (p := ⟨w.heap.size + 1 + 1, 3, none⟩) (show w.heap.size ≤ w.heap.size + 1 + 1 by omega) (.int .u64 (limN (a + b) 3 : Int))).setCell (p := ⟨w.heap.size + 1 + 1, 4, none⟩) (show w.heap.size ≤ w.heap.size + 1 + 1 by omega) (.int .u64 (limN (a + b) 4 : Int))).setCell (p := ⟨w.heap.size + 1 + 1, 5, none⟩) (show w.heap.size ≤ w.heap.size + 1 + 1 by omega) (.int .u64 (limN (a + b) 5 : Int))).setCell (p := ⟨w.heap.size + 1 + 1, 6, none⟩) (show w.heap.size ≤ w.heap.size + 1 + 1 by omega) (.int .u64 (limN (a + b) 6 : Int))).setCell (p := ⟨w.heap.size + 1 + 1, 7, none⟩) (show w.heap.size ≤ w.heap.size + 1 + 1 by omega) (.int .u64 (limN (a + b) 7 : Int)))⟩
end Go.Proofs.Ytnlcllhjhbaigaa
