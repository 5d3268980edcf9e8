/- Part. -/
import Derived.Test.YtnkhmgmganejmaaGreatDoorT11
set_option maxRecDepth 100000
set_option maxHeartbeats 16000000
namespace Go.Proofs.YtnkhmgmganejmaaGreatDoor
open Go Go.RowKit Go.Shelf
attribute [local go_sem] Oper.semAt_some Grows wide_fn
theorem divide4_zero (a : Nat → Int) (w : World) :
  Calls Tryz.prog 140 #[.agg #[.int .u64 (a 0), .int .u64 (a 1), .int .u64 (a 2), .int .u64 (a 3)], .agg #[.int .u64 0, .int .u64 0, .int .u64 0, .int .u64 0]] w fun e w' => e = .returned (.tuple #[.agg #[.int .u64 0, .int .u64 0, .int .u64 0, .int .u64 0], .agg #[.int .u64 0, .int .u64 0, .int .u64 0, .int .u64 0]]) ∧ Below w.heap.size w w' := by
 have LQ : Limbs (((w.alloc (.cells #[.int .u64 (a 0), .int .u64 (a 1), .int .u64 (a 2), .int .u64 (a 3)] 129)).alloc (.cells #[.int .u64 0, .int .u64 0, .int .u64 0, .int .u64 0] 24)).alloc (.cells #[.int .u64 0, .int .u64 0, .int .u64 0, .int .u64 0] 129)) ((w.alloc (.cells #[.int .u64 (a 0), .int .u64 (a 1), .int .u64 (a 2), .int .u64 (a 3)] 129)).alloc (.cells #[.int .u64 0, .int .u64 0, .int .u64 0, .int .u64 0] 24)).heap.size 129 4 (fun _ => 0) := ⟨_, World.alloc_heap_new ((w.alloc (.cells #[.int .u64 (a 0), .int .u64 (a 1), .int .u64 (a 2), .int .u64 (a 3)] 129)).alloc (.cells #[.int .u64 0, .int .u64 0, .int .u64 0, .int .u64 0] 24)) _, rfl, fun j hj => by
  rcases (show j = 0 ∨ j = 1 ∨ j = 2 ∨ j = 3 by omega) with rfl | rfl | rfl | rfl <;> rfl⟩
 have AR := Arr4.mk0' (((w.alloc (.cells #[.int .u64 (a 0), .int .u64 (a 1), .int .u64 (a 2), .int .u64 (a 3)] 129)).alloc (.cells #[.int .u64 0, .int .u64 0, .int .u64 0, .int .u64 0] 24)).alloc (.cells #[.int .u64 0, .int .u64 0, .int .u64 0, .int .u64 0] 129)) 24
 have LD := Limbs.of4 (show Arr4 (((((w.alloc (.cells #[.int .u64 (a 0), .int .u64 (a 1), .int .u64 (a 2), .int .u64 (a 3)] 129)).alloc (.cells #[.int .u64 0, .int .u64 0, .int .u64 0, .int .u64 0] 24)).alloc (.cells #[.int .u64 0, .int .u64 0, .int .u64 0, .int .u64 0] 129)).alloc (.cells #[.int .u64 0, .int .u64 0, .int .u64 0, .int .u64 0] 24)).alloc (.cells #[.int .u64 0, .int .u64 0, .int .u64 0, .int .u64 0] 129)) ((((w.alloc (.cells #[.int .u64 (a 0), .int .u64 (a 1), .int .u64 (a 2), .int .u64 (a 3)] 129)).alloc (.cells #[.int .u64 0, .int .u64 0, .int .u64 0, .int .u64 0] 24)).alloc (.cells #[.int .u64 0, .int .u64 0, .int .u64 0, .int .u64 0] 129)).alloc (.cells #[.int .u64 0, .int .u64 0, .int .u64 0, .int .u64 0] 24)).heap.size 129 (fun _ => 0) from World.alloc_heap_new ((((w.alloc (.cells #[.int .u64 (a 0), .int .u64 (a 1), .int .u64 (a 2), .int .u64 (a 3)] 129)).alloc (.cells #[.int .u64 0, .int .u64 0, .int .u64 0, .int .u64 0] 24)).alloc (.cells #[.int .u64 0, .int .u64 0, .int .u64 0, .int .u64 0] 129)).alloc (.cells #[.int .u64 0, .int .u64 0, .int .u64 0, .int .u64 0] 24)) _)
 have LQ := (LQ.alloc (.cells #[.int .u64 0, .int .u64 0, .int .u64 0, .int .u64 0] 24)).alloc (.cells #[.int .u64 0, .int .u64 0, .int .u64 0, .int .u64 0] 129)
 have AR := AR.alloc (.cells #[.int .u64 0, .int .u64 0, .int .u64 0, .int .u64 0] 129)
 have B0 := (((((Below.refl _ w).alloc (Nat.le_refl _) (.cells #[.int .u64 (a 0), .int .u64 (a 1), .int .u64 (a 2), .int .u64 (a 3)] 129)).alloc (by simp) (.cells #[.int .u64 0, .int .u64 0, .int .u64 0, .int .u64 0] 24)).alloc (by simp; omega) (.cells #[.int .u64 0, .int .u64 0, .int .u64 0, .int .u64 0] 129)).alloc (by simp; omega) (.cells #[.int .u64 0, .int .u64 0, .int .u64 0, .int .u64 0] 24)).alloc (by simp; omega) (.cells #[.int .u64 0, .int .u64 0, .int .u64 0, .int .u64 0] 129)
 simp only [World.size_alloc] at LQ AR LD
 refine (callsIn_wide (n := 4)).1 ?_
 refine callsIn_of_wp_marks Tryz.func140 rfl trivial ?_ rfl
 simp only [Tryz.ntmps140, List.size_toArray, List.length_cons, List.length_nil, Nat.reduceAdd, Nat.reduceSub, Array.replicate_succ, Array.replicate_zero, List.push_toArray, List.append_toArray, List.nil_append, List.cons_append]
 gi_wp2_with fail
 obtain ⟨W0, hW0⟩ : ∃ W0, ((((w.alloc (.cells #[.int .u64 (a 0), .int .u64 (a 1), .int .u64 (a 2), .int .u64 (a 3)] 129)).alloc (.cells #[.int .u64 0, .int .u64 0, .int .u64 0, .int .u64 0] 24)).alloc (.cells #[.int .u64 0, .int .u64 0, .int .u64 0, .int .u64 0] 129)).alloc (.cells #[.int .u64 0, .int .u64 0, .int .u64 0, .int .u64 0] 24)).alloc (.cells #[.int .u64 0, .int .u64 0, .int .u64 0, .int .u64 0] 129) = W0 := ⟨_, rfl⟩
 rw [hW0] at LQ AR LD B0 ⊢
 clear hW0
 refine (callsIn_free free_wide (length4_any (w.heap.size + 1 + 1 + 1 + 1) 0 (fun _ => 0) (fun j _ => by simp) (by decide) W0 LD)).mono ?_
 rintro e w' ⟨⟨Lb, rfl, hLb, hLb9⟩, rfl⟩
 obtain rfl : Lb = 0 := hLb.2.1 rfl
 have HB := Lib.hid B0
 have hmx : Tryz.prog.follows .mixedOrders = true := by kernel_rfl
 have c0 := LQ.cell (j := 0) (by omega)
 have f0 := LQ.frozen 0
 have sc0 := setCell_same c0
 have c1 := LQ.cell (j := 1) (by omega)
 have f1 := LQ.frozen 1
 have sc1 := setCell_same c1
 have c2 := LQ.cell (j := 2) (by omega)
 have f2 := LQ.frozen 2
 have sc2 := setCell_same c2
 have c3 := LQ.cell (j := 3) (by omega)
 have f3 := LQ.frozen 3
 have sc3 := setCell_same c3
 have d0 := AR.cell (j := 0) (by omega)
 have g0 := AR.frozen 0
 have sd0 := setCell_same d0
 have d1 := AR.cell (j := 1) (by omega)
 have g1 := AR.frozen 1
 have sd1 := setCell_same d1
 have d2 := AR.cell (j := 2) (by omega)
 have g2 := AR.frozen 2
 have sd2 := setCell_same d2
 have d3 := AR.cell (j := 3) (by omega)
 have g3 := AR.frozen 3
 have sd3 := setCell_same d3
 clear hLb hLb9 LD LQ AR B0
 gi_wp2
 gi_region_o
 all_goals (try simp only [sc0, sc1, sc2, sc3, sd0, sd1, sd2, sd3])
 all_goals gi_wp2
 all_goals (try simp only [sc0, sc1, sc2, sc3, sd0, sd1, sd2, sd3])
 all_goals
  exact ⟨_, by simp [results, Tryz.f140, go_sem, c0, c1, c2, c3, d0, d1, d2, d3], rfl, HB.out.drew⟩
theorem div_ret (a b : Nat) (ha : W256 a) (hb : W256 b) : Ret Tryz.prog 112 #[wv a, wv b] (wv (a / b)) := by
 intro w
 have hN : a < 18446744073709551616 ^ 4 := ha
 by_cases h0 : b = 0
 ·subst h0
  have ez : wv 0 = .agg #[.int .u64 0, .int .u64 0, .int .u64 0, .int .u64 0] := wv_of ⟨by decide, by decide, by decide, by decide⟩
  have ev : (a / 0) = 0 := by simp
  rw [ev, ez]
  have DZ := divide4_zero (lim a)
  clear ha hb hN ez ev
  unfold wv
  go_enter Tryz.func112, Tryz.ntmps112
  go_wp2_with fail
  refine (DZ _).mono ?_
  rintro e w1 ⟨rfl, q⟩
  have A3 := (Arr4.mk0' ((w.alloc (.cells #[.int .u64 (lim a 0), .int .u64 (lim a 1), .int .u64 (lim a 2), .int .u64 (lim a 3)] 24)).alloc (.cells #[.int .u64 0, .int .u64 0, .int .u64 0, .int .u64 0] 24)) 24)
  have B0 := (((Below.refl _ w).alloc (Nat.le_refl _) (.cells #[.int .u64 (lim a 0), .int .u64 (lim a 1), .int .u64 (lim a 2), .int .u64 (lim a 3)] 24)).alloc (by simp) (.cells #[.int .u64 0, .int .u64 0, .int .u64 0, .int .u64 0] 24)).alloc (by simp; omega) (.cells #[.int .u64 0, .int .u64 0, .int .u64 0, .int .u64 0] 24)
  rw [World.size_alloc, World.size_alloc] at A3
  have A4 := A3.later' q
  have BB := B0.trans (q.mono B0.size)
  clear A3 B0 q DZ
  have hz := BB.size
  have c0 := A4.cell (j := 0) (by omega)
  have c1 := A4.cell (j := 1) (by omega)
  have c2 := A4.cell (j := 2) (by omega)
  have c3 := A4.cell (j := 3) (by omega)
  have f0 := A4.frozen 0
  have f1 := A4.frozen 1
  have f2 := A4.frozen 2
  have f3 := A4.frozen 3
  have hlt := A4.lt
  have HA := Lib.hid A4
  have A5 := (A4.alloc (.cells #[.int .u64 0, .int .u64 0, .int .u64 0, .int .u64 0] 129)).alloc (.cells #[.int .u64 0, .int .u64 0, .int .u64 0, .int .u64 0] 24)
  have v0 := A5.cell (j := 0) (by omega)
  have v1 := A5.cell (j := 1) (by omega)
  have v2 := A5.cell (j := 2) (by omega)
  have v3 := A5.cell (j := 3) (by omega)
  have z0 := A5.frozen 0
  have z1 := A5.frozen 1
  have z2 := A5.frozen 2
  have z3 := A5.frozen 3
  clear A4 A5 c0 c1 c2 c3 f0 f1 f2 f3
  go_wp2
  refine bodyPost_ret (results_word rfl rfl (((HA.out.alloc _).alloc _).store (fun _ => 0))) rfl ⟨rfl, ?_⟩
  (repeat (first | exact BB | refine Below.setCell ?_ (by first | omega | (simp; done) | (simp; omega)) _ | refine Below.alloc ?_ (by first | omega | (simp; done) | (simp; omega)) _ | refine Below.drew ?_))
 ·have DD := divide4_any a b (lim a) (fun j hj => limN_lim a j hj) hN hb h0
  have ev : (a / b) = a / b := by rfl
  have eq4 : ∀ j, j < 4 → (limN (a / b) j : Int) = lim (a / b) j := fun j hj => (limN_lim (a / b) j hj).symm
  rw [ev]
  simp only [eq4 0 (by omega), eq4 1 (by omega), eq4 2 (by omega), eq4 3 (by omega)] at DD
  clear ha hb hN ev h0 eq4
  unfold wv at DD ⊢
  go_enter Tryz.func112, Tryz.ntmps112
  go_wp2_with fail
  refine (DD _).mono ?_
  rintro e w1 ⟨rfl, q⟩
  have A3 := (Arr4.mk0' ((w.alloc (.cells #[.int .u64 (lim a 0), .int .u64 (lim a 1), .int .u64 (lim a 2), .int .u64 (lim a 3)] 24)).alloc (.cells #[.int .u64 (lim b 0), .int .u64 (lim b 1), .int .u64 (lim b 2), .int .u64 (lim b 3)] 24)) 24)
  have B0 := (((Below.refl _ w).alloc (Nat.le_refl _) (.cells #[.int .u64 (lim a 0), .int .u64 (lim a 1), .int .u64 (lim a 2), .int .u64 (lim a 3)] 24)).alloc (by simp) (.cells #[.int .u64 (lim b 0), .int .u64 (lim b 1), .int .u64 (lim b 2), .int .u64 (lim b 3)] 24)).alloc (by simp; omega) (.cells #[.int .u64 0, .int .u64 0, .int .u64 0, .int .u64 0] 24)
  rw [World.size_alloc, World.size_alloc] at A3
  have A4 := A3.later' q
  have BB := B0.trans (q.mono B0.size)
  clear A3 B0 q DD
  have hz := BB.size
  have c0 := A4.cell (j := 0) (by omega)
  have c1 := A4.cell (j := 1) (by omega)
  have c2 := A4.cell (j := 2) (by omega)
  have c3 := A4.cell (j := 3) (by omega)
  have f0 := A4.frozen 0
  have f1 := A4.frozen 1
  have f2 := A4.frozen 2
  have f3 := A4.frozen 3
  have hlt := A4.lt
  have HA := Lib.hid A4
  have A5 := (A4.alloc (.cells #[.int .u64 (lim (a / b) 0), .int .u64 (lim (a / b) 1), .int .u64 (lim (a / b) 2), .int .u64 (lim (a / b) 3)] 129)).alloc (.cells #[.int .u64 (lim (a % b) 0), .int .u64 (lim (a % b) 1), .int .u64 (lim (a % b) 2), .int .u64 (lim (a % b) 3)] 24)
  have v0 := A5.cell (j := 0) (by omega)
  have v1 := A5.cell (j := 1) (by omega)
  have v2 := A5.cell (j := 2) (by omega)
  have v3 := A5.cell (j := 3) (by omega)
  have z0 := A5.frozen 0
  have z1 := A5.frozen 1
  have z2 := A5.frozen 2
  have z3 := A5.frozen 3
  clear A4 A5 c0 c1 c2 c3 f0 f1 f2 f3
  go_wp2
  refine bodyPost_ret (results_word rfl rfl (((HA.out.alloc _).alloc _).store (lim (a / b)))) rfl ⟨rfl, ?_⟩
  (repeat (first | exact BB | refine Below.setCell ?_ (by first | omega | (simp; done) | (simp; omega)) _ | refine Below.alloc ?_ (by first | omega | (simp; done) | (simp; omega)) _ | refine Below.drew ?_))
theorem mod_ret (a b : Nat) (ha : W256 a) (hb : W256 b) : Ret Tryz.prog 114 #[wv a, wv b] (wv (if b = 0 then 0 else a % b)) := by
 intro w
 have hN : a < 18446744073709551616 ^ 4 := ha
 by_cases h0 : b = 0
 ·subst h0
  have ez : wv 0 = .agg #[.int .u64 0, .int .u64 0, .int .u64 0, .int .u64 0] := wv_of ⟨by decide, by decide, by decide, by decide⟩
  have ev : (if (0 : Nat) = 0 then 0 else a % 0) = 0 := by simp
  rw [ev, ez]
  have DZ := divide4_zero (lim a)
  clear ha hb hN ez ev
  unfold wv
  go_enter Tryz.func114, Tryz.ntmps114
  go_wp2_with fail
  refine (DZ _).mono ?_
  rintro e w1 ⟨rfl, q⟩
  have A3 := (Arr4.mk0' ((w.alloc (.cells #[.int .u64 (lim a 0), .int .u64 (lim a 1), .int .u64 (lim a 2), .int .u64 (lim a 3)] 24)).alloc (.cells #[.int .u64 0, .int .u64 0, .int .u64 0, .int .u64 0] 24)) 24)
  have B0 := (((Below.refl _ w).alloc (Nat.le_refl _) (.cells #[.int .u64 (lim a 0), .int .u64 (lim a 1), .int .u64 (lim a 2), .int .u64 (lim a 3)] 24)).alloc (by simp) (.cells #[.int .u64 0, .int .u64 0, .int .u64 0, .int .u64 0] 24)).alloc (by simp; omega) (.cells #[.int .u64 0, .int .u64 0, .int .u64 0, .int .u64 0] 24)
  rw [World.size_alloc, World.size_alloc] at A3
  have A4 := A3.later' q
  have BB := B0.trans (q.mono B0.size)
  clear A3 B0 q DZ
  have hz := BB.size
  have c0 := A4.cell (j := 0) (by omega)
  have c1 := A4.cell (j := 1) (by omega)
  have c2 := A4.cell (j := 2) (by omega)
  have c3 := A4.cell (j := 3) (by omega)
  have f0 := A4.frozen 0
  have f1 := A4.frozen 1
  have f2 := A4.frozen 2
  have f3 := A4.frozen 3
  have hlt := A4.lt
  have HA := Lib.hid A4
  have A5 := (A4.alloc (.cells #[.int .u64 0, .int .u64 0, .int .u64 0, .int .u64 0] 129)).alloc (.cells #[.int .u64 0, .int .u64 0, .int .u64 0, .int .u64 0] 24)
  have v0 := A5.cell (j := 0) (by omega)
  have v1 := A5.cell (j := 1) (by omega)
  have v2 := A5.cell (j := 2) (by omega)
  have v3 := A5.cell (j := 3) (by omega)
  have z0 := A5.frozen 0
  have z1 := A5.frozen 1
  have z2 := A5.frozen 2
  have z3 := A5.frozen 3
  clear A4 A5 c0 c1 c2 c3 f0 f1 f2 f3
  go_wp2
  refine bodyPost_ret (results_word rfl rfl (((HA.out.alloc _).alloc _).store (fun _ => 0))) rfl ⟨rfl, ?_⟩
  (repeat (first | exact BB | refine Below.setCell ?_ (by first | omega | (simp; done) | (simp; omega)) _ | refine Below.alloc ?_ (by first | omega | (simp; done) | (simp; omega)) _ | refine Below.drew ?_))
 ·have DD := divide4_any a b (lim a) (fun j hj => limN_lim a j hj) hN hb h0
  have ev : (if b = 0 then 0 else a % b) = a % b := by rw [if_neg h0]
  have eq4 : ∀ j, j < 4 → (limN (a / b) j : Int) = lim (a / b) j := fun j hj => (limN_lim (a / b) j hj).symm
  rw [ev]
  simp only [eq4 0 (by omega), eq4 1 (by omega), eq4 2 (by omega), eq4 3 (by omega)] at DD
  clear ha hb hN ev h0 eq4
  unfold wv at DD ⊢
  go_enter Tryz.func114, Tryz.ntmps114
  go_wp2_with fail
  refine (DD _).mono ?_
  rintro e w1 ⟨rfl, q⟩
  have A3 := (Arr4.mk0' ((w.alloc (.cells #[.int .u64 (lim a 0), .int .u64 (lim a 1), .int .u64 (lim a 2), .int .u64 (lim a 3)] 24)).alloc (.cells #[.int .u64 (lim b 0), .int .u64 (lim b 1), .int .u64 (lim b 2), .int .u64 (lim b 3)] 24)) 24)
  have B0 := (((Below.refl _ w).alloc (Nat.le_refl _) (.cells #[.int .u64 (lim a 0), .int .u64 (lim a 1), .int .u64 (lim a 2), .int .u64 (lim a 3)] 24)).alloc (by simp) (.cells #[.int .u64 (lim b 0), .int .u64 (lim b 1), .int .u64 (lim b 2), .int .u64 (lim b 3)] 24)).alloc (by simp; omega) (.cells #[.int .u64 0, .int .u64 0, .int .u64 0, .int .u64 0] 24)
  rw [World.size_alloc, World.size_alloc] at A3
  have A4 := A3.later' q
  have BB := B0.trans (q.mono B0.size)
  clear A3 B0 q DD
  have hz := BB.size
  have c0 := A4.cell (j := 0) (by omega)
  have c1 := A4.cell (j := 1) (by omega)
  have c2 := A4.cell (j := 2) (by omega)
  have c3 := A4.cell (j := 3) (by omega)
  have f0 := A4.frozen 0
  have f1 := A4.frozen 1
  have f2 := A4.frozen 2
  have f3 := A4.frozen 3
  have hlt := A4.lt
  have HA := Lib.hid A4
  have A5 := (A4.alloc (.cells #[.int .u64 (lim (a / b) 0), .int .u64 (lim (a / b) 1), .int .u64 (lim (a / b) 2), .int .u64 (lim (a / b) 3)] 129)).alloc (.cells #[.int .u64 (lim (a % b) 0), .int .u64 (lim (a % b) 1), .int .u64 (lim (a % b) 2), .int .u64 (lim (a % b) 3)] 24)
  have v0 := A5.cell (j := 0) (by omega)
  have v1 := A5.cell (j := 1) (by omega)
  have v2 := A5.cell (j := 2) (by omega)
  have v3 := A5.cell (j := 3) (by omega)
  have z0 := A5.frozen 0
  have z1 := A5.frozen 1
  have z2 := A5.frozen 2
  have z3 := A5.frozen 3
  clear A4 A5 c0 c1 c2 c3 f0 f1 f2 f3
  go_wp2
  refine bodyPost_ret (results_word rfl rfl (((HA.out.alloc _).alloc _).store (lim (a % b)))) rfl ⟨rfl, ?_⟩
  (repeat (first | exact BB | refine Below.setCell ?_ (by first | omega | (simp; done) | (simp; omega)) _ | refine Below.alloc ?_ (by first | omega | (simp; done) | (simp; omega)) _ | refine Below.drew ?_))
theorem Arr4.mk4' (W : World) (t : TypeId) (m : Nat → Int) : Arr4 (W.alloc (.cells #[.int .u64 (m 0), .int .u64 (m 1), .int .u64 (m 2), .int .u64 (m 3)] t)) W.heap.size t m := World.alloc_heap_new W _
def negN (a : Nat) : Bool := decide (57896044618658097711785492504343953926634992332820282019728792003956564819968 ≤ a)
def sgN (a : Nat) (s : Bool) : Nat := if s = true then wsub 0 a else a
def szN (a : Nat) : Nat := sgN a (negN a)
theorem sgN_lt (a : Nat) (s : Bool) (ha : W256 a) : W256 (sgN a s) := by
 unfold sgN
 split
 ·unfold wsub; exact wmod_lt _
 ·exact ha
theorem negative_ret (a : Nat) (ha : W256 a) : Ret Tryz.prog 143 #[wv a] (.bool (negN a)) := by
 intro w
 have hn := num_lim a ha
 have l0 := lim_u64 a 0
 have l1 := lim_u64 a 1
 have l2 := lim_u64 a 2
 have l3 := lim_u64 a 3
 unfold U64 at l0 l1 l2 l3
 unfold num at hn
 have HB := Lib.hid ((Below.refl _ w).alloc (Nat.le_refl _) (.cells #[.int .u64 (lim a 0), .int .u64 (lim a 1), .int .u64 (lim a 2), .int .u64 (lim a 3)] 24))
 unfold wv negN
 by_cases h : 57896044618658097711785492504343953926634992332820282019728792003956564819968 ≤ a
 ·have e : lim a 3 / 9223372036854775808 = 1 := by omega
  rw [decide_eq_true h]
  obtain ⟨p3, q3⟩ := l3
  clear hn l0 l1 l2 h ha
  generalize lim a 3 = z3 at *
  go_enter Tryz.func143, Tryz.ntmps143
  go_wp2
  go_ret
  exact ⟨rfl, HB.out⟩
 ·have e : lim a 3 / 9223372036854775808 = 0 := by omega
  rw [decide_eq_false h]
  obtain ⟨p3, q3⟩ := l3
  clear hn l0 l1 l2 h ha
  generalize lim a 3 = z3 at *
  go_enter Tryz.func143, Tryz.ntmps143
  go_wp2
  go_ret
  exact ⟨rfl, HB.out⟩
theorem signed_ret (a : Nat) (s : Bool) (ha : W256 a) : Ret Tryz.prog 141 #[wv a, .bool s] (wv (sgN a s)) := by
 intro w
 have A0 := (Arr4.mk4' w 24 (lim a)).alloc (.cells #[.int .u64 0, .int .u64 0, .int .u64 0, .int .u64 0] 24)
 have AR := Arr4.mk0' (w.alloc (.cells #[.int .u64 (lim a 0), .int .u64 (lim a 1), .int .u64 (lim a 2), .int .u64 (lim a 3)] 24)) 24
 have B0 := ((Below.refl _ w).alloc (Nat.le_refl _) (.cells #[.int .u64 (lim a 0), .int .u64 (lim a 1), .int .u64 (lim a 2), .int .u64 (lim a 3)] 24)).alloc (by simp) (.cells #[.int .u64 0, .int .u64 0, .int .u64 0, .int .u64 0] 24)
 rw [World.size_alloc] at AR
 have SS := sub_ret 0 a (by unfold W256; omega) ha
 rw [show wv 0 = .agg #[.int .u64 0, .int .u64 0, .int .u64 0, .int .u64 0] from wv_of ⟨by decide, by decide, by decide, by decide⟩] at SS
 cases s
 ·have AQ := Arr4.mk4' (w.alloc (.cells #[.int .u64 (lim a 0), .int .u64 (lim a 1), .int .u64 (lim a 2), .int .u64 (lim a 3)] 24)) 24 (lim a)
  have BQ := ((Below.refl _ w).alloc (Nat.le_refl _) (.cells #[.int .u64 (lim a 0), .int .u64 (lim a 1), .int .u64 (lim a 2), .int .u64 (lim a 3)] 24)).alloc (by simp) (.cells #[.int .u64 (lim a 0), .int .u64 (lim a 1), .int .u64 (lim a 2), .int .u64 (lim a 3)] 24)
  rw [World.size_alloc] at AQ
  rw [show sgN a false = a from rfl]
  clear SS A0 AR B0
  unfold wv
  go_enter Tryz.func141, Tryz.ntmps141
  go_wp2
  exact bodyPost_ret (results_word rfl rfl AQ) rfl ⟨rfl, BQ⟩
 ·rw [show sgN a true = wsub 0 a from rfl]
  unfold wv at SS ⊢
  go_enter Tryz.func141, Tryz.ntmps141
  go_wp2_with fail
  obtain ⟨W0, hW0⟩ : ∃ W0, (w.alloc (.cells #[.int .u64 (lim a 0), .int .u64 (lim a 1), .int .u64 (lim a 2), .int .u64 (lim a 3)] 24)).alloc (.cells #[.int .u64 0, .int .u64 0, .int .u64 0, .int .u64 0] 24) = W0 := ⟨_, rfl⟩
  rw [hW0] at A0 AR B0 ⊢
  clear hW0
  refine (SS _).mono ?_
  rintro e w1 ⟨rfl, q⟩
  have A4 := AR.later' q
  have BB := B0.trans (q.mono B0.size)
  have c0 := A4.cell (j := 0) (by omega)
  have c1 := A4.cell (j := 1) (by omega)
  have c2 := A4.cell (j := 2) (by omega)
  have c3 := A4.cell (j := 3) (by omega)
  have f0 := A4.frozen 0
  have f1 := A4.frozen 1
  have f2 := A4.frozen 2
  have f3 := A4.frozen 3
  have HA := Lib.hid A4
  clear A0 AR B0 A4 q SS
  go_wp2
  refine bodyPost_ret (results_word rfl rfl (HA.out.store (lim (wsub 0 a)))) rfl ⟨rfl, ?_⟩
  (repeat (first | exact BB | refine Below.setCell ?_ (by first | omega | (simp; done) | (simp; omega)) _ | refine Below.alloc ?_ (by first | omega | (simp; done) | (simp; omega)) _))
theorem size_ret (a : Nat) (ha : W256 a) : Ret Tryz.prog 142 #[wv a] (wv (szN a)) := by
 intro w
 have N1 := negative_ret a ha
 have S1 := signed_ret a (negN a) ha
 have A0 := ((Arr4.mk4' w 24 (lim a)).alloc (.cells #[.int .u64 0, .int .u64 0, .int .u64 0, .int .u64 0] 24))
 have AR := Arr4.mk0' (w.alloc (.cells #[.int .u64 (lim a 0), .int .u64 (lim a 1), .int .u64 (lim a 2), .int .u64 (lim a 3)] 24)) 24
 have B0 := ((Below.refl _ w).alloc (by first | exact Nat.le_refl _ | (simp; done) | (simp; omega)) (.cells #[.int .u64 (lim a 0), .int .u64 (lim a 1), .int .u64 (lim a 2), .int .u64 (lim a 3)] 24)).alloc (by first | exact Nat.le_refl _ | (simp; done) | (simp; omega)) (.cells #[.int .u64 0, .int .u64 0, .int .u64 0, .int .u64 0] 24)
 simp only [World.size_alloc] at  AR
 unfold wv at *
 go_enter Tryz.func142, Tryz.ntmps142
 go_wp2_with fail
 obtain ⟨W0, hW0⟩ : ∃ W0, (w.alloc (.cells #[.int .u64 (lim a 0), .int .u64 (lim a 1), .int .u64 (lim a 2), .int .u64 (lim a 3)] 24)).alloc (.cells #[.int .u64 0, .int .u64 0, .int .u64 0, .int .u64 0] 24) = W0 := ⟨_, rfl⟩
 rw [hW0] at A0 AR B0 ⊢
 clear hW0
 have hmx : Tryz.prog.follows .mixedOrders = true := by kernel_rfl
 have HA0 := Lib.hid A0
 have HAR := Lib.hid AR
 have HB := Lib.hid B0
 have m00 : ∀ x : Ext W0, x.w.cell? ⟨w.heap.size, 0, none⟩ = some (.int .u64 (lim a 0)) := fun x => (HA0.out.later' x.below).cell (by omega)
 have m01 : ∀ x : Ext W0, x.w.cell? ⟨w.heap.size, 1, none⟩ = some (.int .u64 (lim a 1)) := fun x => (HA0.out.later' x.below).cell (by omega)
 have m02 : ∀ x : Ext W0, x.w.cell? ⟨w.heap.size, 2, none⟩ = some (.int .u64 (lim a 2)) := fun x => (HA0.out.later' x.below).cell (by omega)
 have m03 : ∀ x : Ext W0, x.w.cell? ⟨w.heap.size, 3, none⟩ = some (.int .u64 (lim a 3)) := fun x => (HA0.out.later' x.below).cell (by omega)
 have r0 : ∀ x : Ext W0, x.w.cell? ⟨w.heap.size + 1, 0, none⟩ = some (.int .u64 0) := fun x => (HAR.out.later' x.below).cell (by omega)
 have g0 : ∀ x : Ext W0, x.w.frozen? ⟨w.heap.size + 1, 0, none⟩ = false := fun x => (HAR.out.later' x.below).frozen 0
 have r1 : ∀ x : Ext W0, x.w.cell? ⟨w.heap.size + 1, 1, none⟩ = some (.int .u64 0) := fun x => (HAR.out.later' x.below).cell (by omega)
 have g1 : ∀ x : Ext W0, x.w.frozen? ⟨w.heap.size + 1, 1, none⟩ = false := fun x => (HAR.out.later' x.below).frozen 1
 have r2 : ∀ x : Ext W0, x.w.cell? ⟨w.heap.size + 1, 2, none⟩ = some (.int .u64 0) := fun x => (HAR.out.later' x.below).cell (by omega)
 have g2 : ∀ x : Ext W0, x.w.frozen? ⟨w.heap.size + 1, 2, none⟩ = false := fun x => (HAR.out.later' x.below).frozen 2
 have r3 : ∀ x : Ext W0, x.w.cell? ⟨w.heap.size + 1, 3, none⟩ = some (.int .u64 0) := fun x => (HAR.out.later' x.below).cell (by omega)
 have g3 : ∀ x : Ext W0, x.w.frozen? ⟨w.heap.size + 1, 3, none⟩ = false := fun x => (HAR.out.later' x.below).frozen 3
 clear A0 AR B0
 refine wp_region_mix (C := Grows W0) [some true, some true, some true, some true, none] hmx (by kernel_rfl) (by kernel_rfl) (grows_refl W0) ?_
 simp only [headOf, tailOf]
 repeat (go_big_quiet_step (first | (with_reducible exact Ret.at N1 _) | (with_reducible exact Ret.at S1 _)))
 refine wpQuiet_nil ?_
 rintro _ ⟨x, rfl⟩
 have AF := (HAR.out.later' x.below).store (lim (szN a))
 have BF := HB.out.trans (x.below.mono HB.out.size)
 go_wp2
 rw [calmPost_normal]
 go_wp2
 refine bodyPost_ret (results_word rfl rfl AF) rfl ⟨rfl, ?_⟩
 exact (((BF.setCell (p := ⟨w.heap.size + 1, 0, none⟩) (by first | (simp; done) | (simp; omega)) _).setCell (p := ⟨w.heap.size + 1, 1, none⟩) (by first | (simp; done) | (simp; omega)) _).setCell (p := ⟨w.heap.size + 1, 2, none⟩) (by first | (simp; done) | (simp; omega)) _).setCell (p := ⟨w.heap.size + 1, 3, none⟩) (by first | (simp; done) | (simp; omega)) _
theorem sdiv_ret (a b : Nat) (ha : W256 a) (hb : W256 b) : Ret Tryz.prog 113 #[wv a, wv b] (wv (sgN (szN a / szN b) (negN a != negN b))) := by
 intro w
 have Z1 := size_ret a ha
 have Z2 := size_ret b hb
 have za : W256 (szN a) := sgN_lt _ _ ha
 have zb : W256 (szN b) := sgN_lt _ _ hb
 have D1 := div_ret (szN a) (szN b) za zb
 have N1 := negative_ret a ha
 have N2 := negative_ret b hb
 have hq : W256 (szN a / szN b) := by unfold W256 at *; exact Nat.lt_of_le_of_lt (Nat.div_le_self _ _) za
 have S1 := signed_ret (szN a / szN b) (negN a != negN b) hq
 obtain ⟨v, hv⟩ : ∃ v, v = sgN (szN a / szN b) (negN a != negN b) := ⟨_, rfl⟩
 rw [← hv] at S1 ⊢
 clear hv
 generalize szN a / szN b = q at *
 generalize szN a = sa at *
 generalize szN b = sb at *
 generalize negN a = na at *
 generalize negN b = nb at *
 obtain ⟨nx, hnx⟩ : ∃ nx, nx = (na != nb) := ⟨_, rfl⟩
 rw [← hnx] at S1
 clear za zb hq ha hb
 have A0 := (((Arr4.mk4' w 24 (lim a)).alloc (.cells #[.int .u64 (lim b 0), .int .u64 (lim b 1), .int .u64 (lim b 2), .int .u64 (lim b 3)] 24)).alloc (.cells #[.int .u64 0, .int .u64 0, .int .u64 0, .int .u64 0] 24))
 have A1 := ((Arr4.mk4' (w.alloc (.cells #[.int .u64 (lim a 0), .int .u64 (lim a 1), .int .u64 (lim a 2), .int .u64 (lim a 3)] 24)) 24 (lim b)).alloc (.cells #[.int .u64 0, .int .u64 0, .int .u64 0, .int .u64 0] 24))
 have AR := Arr4.mk0' ((w.alloc (.cells #[.int .u64 (lim a 0), .int .u64 (lim a 1), .int .u64 (lim a 2), .int .u64 (lim a 3)] 24)).alloc (.cells #[.int .u64 (lim b 0), .int .u64 (lim b 1), .int .u64 (lim b 2), .int .u64 (lim b 3)] 24)) 24
 have B0 := (((Below.refl _ w).alloc (by first | exact Nat.le_refl _ | (simp; done) | (simp; omega)) (.cells #[.int .u64 (lim a 0), .int .u64 (lim a 1), .int .u64 (lim a 2), .int .u64 (lim a 3)] 24)).alloc (by first | exact Nat.le_refl _ | (simp; done) | (simp; omega)) (.cells #[.int .u64 (lim b 0), .int .u64 (lim b 1), .int .u64 (lim b 2), .int .u64 (lim b 3)] 24)).alloc (by first | exact Nat.le_refl _ | (simp; done) | (simp; omega)) (.cells #[.int .u64 0, .int .u64 0, .int .u64 0, .int .u64 0] 24)
 simp only [World.size_alloc] at A1 AR
 unfold wv at *
 go_enter Tryz.func113, Tryz.ntmps113
 go_wp2_with fail
 obtain ⟨W0, hW0⟩ : ∃ W0, ((w.alloc (.cells #[.int .u64 (lim a 0), .int .u64 (lim a 1), .int .u64 (lim a 2), .int .u64 (lim a 3)] 24)).alloc (.cells #[.int .u64 (lim b 0), .int .u64 (lim b 1), .int .u64 (lim b 2), .int .u64 (lim b 3)] 24)).alloc (.cells #[.int .u64 0, .int .u64 0, .int .u64 0, .int .u64 0] 24) = W0 := ⟨_, rfl⟩
 rw [hW0] at A0 A1 AR B0 ⊢
 clear hW0
 have hmx : Tryz.prog.follows .mixedOrders = true := by kernel_rfl
 have HA0 := Lib.hid A0
 have HA1 := Lib.hid A1
 have HAR := Lib.hid AR
 have HB := Lib.hid B0
 have m00 : ∀ x : Ext W0, x.w.cell? ⟨w.heap.size, 0, none⟩ = some (.int .u64 (lim a 0)) := fun x => (HA0.out.later' x.below).cell (by omega)
 have m01 : ∀ x : Ext W0, x.w.cell? ⟨w.heap.size, 1, none⟩ = some (.int .u64 (lim a 1)) := fun x => (HA0.out.later' x.below).cell (by omega)
 have m02 : ∀ x : Ext W0, x.w.cell? ⟨w.heap.size, 2, none⟩ = some (.int .u64 (lim a 2)) := fun x => (HA0.out.later' x.below).cell (by omega)
 have m03 : ∀ x : Ext W0, x.w.cell? ⟨w.heap.size, 3, none⟩ = some (.int .u64 (lim a 3)) := fun x => (HA0.out.later' x.below).cell (by omega)
 have m10 : ∀ x : Ext W0, x.w.cell? ⟨w.heap.size + 1, 0, none⟩ = some (.int .u64 (lim b 0)) := fun x => (HA1.out.later' x.below).cell (by omega)
 have m11 : ∀ x : Ext W0, x.w.cell? ⟨w.heap.size + 1, 1, none⟩ = some (.int .u64 (lim b 1)) := fun x => (HA1.out.later' x.below).cell (by omega)
 have m12 : ∀ x : Ext W0, x.w.cell? ⟨w.heap.size + 1, 2, none⟩ = some (.int .u64 (lim b 2)) := fun x => (HA1.out.later' x.below).cell (by omega)
 have m13 : ∀ x : Ext W0, x.w.cell? ⟨w.heap.size + 1, 3, none⟩ = some (.int .u64 (lim b 3)) := fun x => (HA1.out.later' x.below).cell (by omega)
 have r0 : ∀ x : Ext W0, x.w.cell? ⟨w.heap.size + 1 + 1, 0, none⟩ = some (.int .u64 0) := fun x => (HAR.out.later' x.below).cell (by omega)
 have g0 : ∀ x : Ext W0, x.w.frozen? ⟨w.heap.size + 1 + 1, 0, none⟩ = false := fun x => (HAR.out.later' x.below).frozen 0
 have r1 : ∀ x : Ext W0, x.w.cell? ⟨w.heap.size + 1 + 1, 1, none⟩ = some (.int .u64 0) := fun x => (HAR.out.later' x.below).cell (by omega)
 have g1 : ∀ x : Ext W0, x.w.frozen? ⟨w.heap.size + 1 + 1, 1, none⟩ = false := fun x => (HAR.out.later' x.below).frozen 1
 have r2 : ∀ x : Ext W0, x.w.cell? ⟨w.heap.size + 1 + 1, 2, none⟩ = some (.int .u64 0) := fun x => (HAR.out.later' x.below).cell (by omega)
 have g2 : ∀ x : Ext W0, x.w.frozen? ⟨w.heap.size + 1 + 1, 2, none⟩ = false := fun x => (HAR.out.later' x.below).frozen 2
 have r3 : ∀ x : Ext W0, x.w.cell? ⟨w.heap.size + 1 + 1, 3, none⟩ = some (.int .u64 0) := fun x => (HAR.out.later' x.below).cell (by omega)
 have g3 : ∀ x : Ext W0, x.w.frozen? ⟨w.heap.size + 1 + 1, 3, none⟩ = false := fun x => (HAR.out.later' x.below).frozen 3
 clear A0 A1 AR B0
 cases na <;> cases nb <;> first | obtain rfl : nx = true := hnx | obtain rfl : nx = false := hnx
 all_goals
  refine wp_region_mix (C := Grows W0) [some true, some true, some true, some true, some true, some true, some true, some true, some true, some true, some true, none] hmx (by kernel_rfl) (by kernel_rfl) (grows_refl W0) ?_
  simp only [headOf, tailOf]
  repeat (go_big_quiet_step (first | (with_reducible exact Ret.at Z1 _) | (with_reducible exact Ret.at Z2 _) | (with_reducible exact Ret.at D1 _) | (with_reducible exact Ret.at N1 _) | (with_reducible exact Ret.at N2 _) | (with_reducible exact Ret.at S1 _)))
  refine wpQuiet_nil ?_
  rintro _ ⟨x, rfl⟩
  have AF := (HAR.out.later' x.below).store (lim (v))
  have BF := HB.out.trans (x.below.mono HB.out.size)
  go_wp2
  rw [calmPost_normal]
  go_wp2
  refine bodyPost_ret (results_word rfl rfl AF) rfl ⟨rfl, ?_⟩
  exact (((BF.setCell (p := ⟨w.heap.size + 1 + 1, 0, none⟩) (by first | (simp; done) | (simp; omega)) _).setCell (p := ⟨w.heap.size + 1 + 1, 1, none⟩) (by first | (simp; done) | (simp; omega)) _).setCell (p := ⟨w.heap.size + 1 + 1, 2, none⟩) (by first | (simp; done) | (simp; omega)) _).setCell (p := ⟨w.heap.size + 1 + 1, 3, none⟩) (by first | (simp; done) | (simp; omega)) _
theorem smod_ret (a b : Nat) (ha : W256 a) (hb : W256 b) : Ret Tryz.prog 115 #[wv a, wv b] (wv (sgN (if szN b = 0 then 0 else szN a % szN b) (negN a))) := by
 intro w
 have Z1 := size_ret a ha
 have Z2 := size_ret b hb
 have za : W256 (szN a) := sgN_lt _ _ ha
 have zb : W256 (szN b) := sgN_lt _ _ hb
 have D1 := mod_ret (szN a) (szN b) za zb
 have N1 := negative_ret a ha
 have hq : W256 (if szN b = 0 then 0 else szN a % szN b) := by
  unfold W256 at *
  split
  ·omega
  ·exact Nat.lt_of_le_of_lt (Nat.mod_le _ _) za
 have S1 := signed_ret (if szN b = 0 then 0 else szN a % szN b) (negN a) hq
 obtain ⟨v, hv⟩ : ∃ v, v = sgN (if szN b = 0 then 0 else szN a % szN b) (negN a) := ⟨_, rfl⟩
 rw [← hv] at S1 ⊢
 clear hv
 generalize (if szN b = 0 then 0 else szN a % szN b) = q at *
 generalize szN a = sa at *
 generalize szN b = sb at *
 generalize negN a = na at *
 clear za zb hq ha hb
 have A0 := (((Arr4.mk4' w 24 (lim a)).alloc (.cells #[.int .u64 (lim b 0), .int .u64 (lim b 1), .int .u64 (lim b 2), .int .u64 (lim b 3)] 24)).alloc (.cells #[.int .u64 0, .int .u64 0, .int .u64 0, .int .u64 0] 24))
 have A1 := ((Arr4.mk4' (w.alloc (.cells #[.int .u64 (lim a 0), .int .u64 (lim a 1), .int .u64 (lim a 2), .int .u64 (lim a 3)] 24)) 24 (lim b)).alloc (.cells #[.int .u64 0, .int .u64 0, .int .u64 0, .int .u64 0] 24))
 have AR := Arr4.mk0' ((w.alloc (.cells #[.int .u64 (lim a 0), .int .u64 (lim a 1), .int .u64 (lim a 2), .int .u64 (lim a 3)] 24)).alloc (.cells #[.int .u64 (lim b 0), .int .u64 (lim b 1), .int .u64 (lim b 2), .int .u64 (lim b 3)] 24)) 24
 have B0 := (((Below.refl _ w).alloc (by first | exact Nat.le_refl _ | (simp; done) | (simp; omega)) (.cells #[.int .u64 (lim a 0), .int .u64 (lim a 1), .int .u64 (lim a 2), .int .u64 (lim a 3)] 24)).alloc (by first | exact Nat.le_refl _ | (simp; done) | (simp; omega)) (.cells #[.int .u64 (lim b 0), .int .u64 (lim b 1), .int .u64 (lim b 2), .int .u64 (lim b 3)] 24)).alloc (by first | exact Nat.le_refl _ | (simp; done) | (simp; omega)) (.cells #[.int .u64 0, .int .u64 0, .int .u64 0, .int .u64 0] 24)
 simp only [World.size_alloc] at A1 AR
 unfold wv at *
 go_enter Tryz.func115, Tryz.ntmps115
 go_wp2_with fail
 obtain ⟨W0, hW0⟩ : ∃ W0, ((w.alloc (.cells #[.int .u64 (lim a 0), .int .u64 (lim a 1), .int .u64 (lim a 2), .int .u64 (lim a 3)] 24)).alloc (.cells #[.int .u64 (lim b 0), .int .u64 (lim b 1), .int .u64 (lim b 2), .int .u64 (lim b 3)] 24)).alloc (.cells #[.int .u64 0, .int .u64 0, .int .u64 0, .int .u64 0] 24) = W0 := ⟨_, rfl⟩
 rw [hW0] at A0 A1 AR B0 ⊢
 clear hW0
 have hmx : Tryz.prog.follows .mixedOrders = true := by kernel_rfl
 have HA0 := Lib.hid A0
 have HA1 := Lib.hid A1
 have HAR := Lib.hid AR
 have HB := Lib.hid B0
 have m00 : ∀ x : Ext W0, x.w.cell? ⟨w.heap.size, 0, none⟩ = some (.int .u64 (lim a 0)) := fun x => (HA0.out.later' x.below).cell (by omega)
 have m01 : ∀ x : Ext W0, x.w.cell? ⟨w.heap.size, 1, none⟩ = some (.int .u64 (lim a 1)) := fun x => (HA0.out.later' x.below).cell (by omega)
 have m02 : ∀ x : Ext W0, x.w.cell? ⟨w.heap.size, 2, none⟩ = some (.int .u64 (lim a 2)) := fun x => (HA0.out.later' x.below).cell (by omega)
 have m03 : ∀ x : Ext W0, x.w.cell? ⟨w.heap.size, 3, none⟩ = some (.int .u64 (lim a 3)) := fun x => (HA0.out.later' x.below).cell (by omega)
 have m10 : ∀ x : Ext W0, x.w.cell? ⟨w.heap.size + 1, 0, none⟩ = some (.int .u64 (lim b 0)) := fun x => (HA1.out.later' x.below).cell (by omega)
 have m11 : ∀ x : Ext W0, x.w.cell? ⟨w.heap.size + 1, 1, none⟩ = some (.int .u64 (lim b 1)) := fun x => (HA1.out.later' x.below).cell (by omega)
 have m12 : ∀ x : Ext W0, x.w.cell? ⟨w.heap.size + 1, 2, none⟩ = some (.int .u64 (lim b 2)) := fun x => (HA1.out.later' x.below).cell (by omega)
 have m13 : ∀ x : Ext W0, x.w.cell? ⟨w.heap.size + 1, 3, none⟩ = some (.int .u64 (lim b 3)) := fun x => (HA1.out.later' x.below).cell (by omega)
 have r0 : ∀ x : Ext W0, x.w.cell? ⟨w.heap.size + 1 + 1, 0, none⟩ = some (.int .u64 0) := fun x => (HAR.out.later' x.below).cell (by omega)
 have g0 : ∀ x : Ext W0, x.w.frozen? ⟨w.heap.size + 1 + 1, 0, none⟩ = false := fun x => (HAR.out.later' x.below).frozen 0
 have r1 : ∀ x : Ext W0, x.w.cell? ⟨w.heap.size + 1 + 1, 1, none⟩ = some (.int .u64 0) := fun x => (HAR.out.later' x.below).cell (by omega)
 have g1 : ∀ x : Ext W0, x.w.frozen? ⟨w.heap.size + 1 + 1, 1, none⟩ = false := fun x => (HAR.out.later' x.below).frozen 1
 have r2 : ∀ x : Ext W0, x.w.cell? ⟨w.heap.size + 1 + 1, 2, none⟩ = some (.int .u64 0) := fun x => (HAR.out.later' x.below).cell (by omega)
 have g2 : ∀ x : Ext W0, x.w.frozen? ⟨w.heap.size + 1 + 1, 2, none⟩ = false := fun x => (HAR.out.later' x.below).frozen 2
 have r3 : ∀ x : Ext W0, x.w.cell? ⟨w.heap.size + 1 + 1, 3, none⟩ = some (.int .u64 0) := fun x => (HAR.out.later' x.below).cell (by omega)
 have g3 : ∀ x : Ext W0, x.w.frozen? ⟨w.heap.size + 1 + 1, 3, none⟩ = false := fun x => (HAR.out.later' x.below).frozen 3
 clear A0 A1 AR B0
 refine wp_region_mix (C := Grows W0) [some true, some true, some true, some true, some true, some true, some true, some true, none] hmx (by kernel_rfl) (by kernel_rfl) (grows_refl W0) ?_
 simp only [headOf, tailOf]
 repeat (go_big_quiet_step (first | (with_reducible exact Ret.at Z1 _) | (with_reducible exact Ret.at Z2 _) | (with_reducible exact Ret.at D1 _) | (with_reducible exact Ret.at N1 _) | (with_reducible exact Ret.at S1 _)))
 refine wpQuiet_nil ?_
 rintro _ ⟨x, rfl⟩
 have AF := (HAR.out.later' x.below).store (lim (v))
 have BF := HB.out.trans (x.below.mono HB.out.size)
 go_wp2
 rw [calmPost_normal]
 go_wp2
 refine bodyPost_ret (results_word rfl rfl AF) rfl ⟨rfl, ?_⟩
 exact (((BF.setCell (p := ⟨w.heap.size + 1 + 1, 0, none⟩) (by first | (simp; done) | (simp; omega)) _).setCell (p := ⟨w.heap.size + 1 + 1, 1, none⟩) (by first | (simp; done) | (simp; omega)) _).setCell (p := ⟨w.heap.size + 1 + 1, 2, none⟩) (by first | (simp; done) | (simp; omega)) _).setCell (p := ⟨w.heap.size + 1 + 1, 3, none⟩) (by first | (simp; done) | (simp; omega)) _
def cyN (M A i : Nat) : Nat := (M % 18446744073709551616 ^ i + A % 18446744073709551616 ^ i) / 18446744073709551616 ^ i
theorem cyN_le (M A i : Nat) : cyN M A i ≤ 1 := by
 unfold cyN
 have hp : 0 < 18446744073709551616 ^ i := Nat.pow_pos (by decide)
 have h1 := Nat.mod_lt M hp
 have h2 := Nat.mod_lt A hp
 generalize 18446744073709551616 ^ i = P at *
 have : (M % P + A % P) / P < 2 := (Nat.div_lt_iff_lt_mul hp).2 (by omega)
 omega
theorem addc (M A i : Nat) : limN (M + A) i = (limN M i + limN A i + cyN M A i) % 18446744073709551616 ∧ cyN M A (i + 1) = (limN M i + limN A i + cyN M A i) / 18446744073709551616 := by
 unfold cyN limN
 have hp : 0 < 18446744073709551616 ^ i := Nat.pow_pos (by decide)
 constructor
 ·have e : (M + A) / 18446744073709551616 ^ i = M / 18446744073709551616 ^ i + A / 18446744073709551616 ^ i + (M % 18446744073709551616 ^ i + A % 18446744073709551616 ^ i) / 18446744073709551616 ^ i := by
   generalize 18446744073709551616 ^ i = P at *
   have h1 := Nat.div_add_mod M P
   have h2 := Nat.div_add_mod A P
   have h3 : M + A = (M % P + A % P) + P * (M / P + A / P) := by rw [Nat.mul_add]; omega
   rw [h3, Nat.add_mul_div_left _ _ hp, Nat.add_comm]
  rw [e]
  omega
 ·rw [Nat.pow_succ, Nat.mod_mul, Nat.mod_mul]
  generalize 18446744073709551616 ^ i = P at *
  rw [show M % P + P * (M / P % 18446744073709551616) + (A % P + P * (A / P % 18446744073709551616)) = (M % P + A % P) + P * (M / P % 18446744073709551616 + A / P % 18446744073709551616) by rw [Nat.mul_add]; omega,
   ← Nat.div_div_eq_div_mul, Nat.add_mul_div_left _ _ hp]
  congr 1
  omega
theorem limN_up (a p i : Nat) : limN (a * 18446744073709551616 ^ p) (p + i) = limN a i := by
 unfold limN
 rw [Nat.pow_add, ← Nat.div_div_eq_div_mul, Nat.mul_div_cancel _ (Nat.pow_pos (by decide))]
theorem limN_below (M a p i : Nat) (h : i < p) : limN (M + a * 18446744073709551616 ^ p) i = limN M i := by
 unfold limN
 have hp : 0 < 18446744073709551616 ^ i := Nat.pow_pos (by decide)
 rw [show a * 18446744073709551616 ^ p = 18446744073709551616 ^ i * (18446744073709551616 * (a * 18446744073709551616 ^ (p - i - 1))) by
  rw [show p = i + (1 + (p - i - 1)) by omega, Nat.pow_add, Nat.pow_add, Nat.pow_one, show i + (1 + (p - i - 1)) - i - 1 = p - i - 1 by omega, Nat.mul_left_comm, Nat.mul_left_comm a]]
 rw [Nat.add_mul_div_left _ _ hp, Nat.add_mul_mod_self_left]
theorem cyN_start (M a p : Nat) : cyN M (a * 18446744073709551616 ^ p) p = 0 := by
 unfold cyN
 rw [Nat.mul_mod_left, Nat.add_zero]
 exact Nat.div_eq_of_lt (Nat.mod_lt _ (Nat.pow_pos (by decide)))
theorem add8_any (B M a place : Nat) (ha : W256 a) (hpl : place ≤ 8) (w : World) (h : Limbs w B 143 8 (fun j => (limN M j : Int))) :
  Calls Tryz.prog 174 #[.pointer (some ⟨B, 0, none⟩), wv a, .int .i64 (place : Int)] w fun e w' => e = .returned (.tuple #[]) ∧ Limbs w' B 143 8 (fun j => (limN (M + a * 18446744073709551616 ^ place) j : Int)) ∧ w.grownBy w' (some B) := by
 have hN : a < 18446744073709551616 ^ 4 := ha
 have hBl := h.lt
 have A1 := (Arr4.mk4' w 24 (lim a)).alloc (.cells #[.int .u64 (lim a 0), .int .u64 (lim a 1), .int .u64 (lim a 2), .int .u64 (lim a 3)] 129)
 have A2 := Limbs.of4 (Arr4.mk4' (w.alloc (.cells #[.int .u64 (lim a 0), .int .u64 (lim a 1), .int .u64 (lim a 2), .int .u64 (lim a 3)] 24)) 129 (lim a))
 have X0 := (h.alloc (.cells #[.int .u64 (lim a 0), .int .u64 (lim a 1), .int .u64 (lim a 2), .int .u64 (lim a 3)] 24)).alloc (.cells #[.int .u64 (lim a 0), .int .u64 (lim a 1), .int .u64 (lim a 2), .int .u64 (lim a 3)] 129)
 have B0 := ((Below.refl _ w).alloc (Nat.le_refl _) (.cells #[.int .u64 (lim a 0), .int .u64 (lim a 1), .int .u64 (lim a 2), .int .u64 (lim a 3)] 24)).alloc (by simp) (.cells #[.int .u64 (lim a 0), .int .u64 (lim a 1), .int .u64 (lim a 2), .int .u64 (lim a 3)] 129)
 have G0 : w.grownBy ((w.alloc (.cells #[.int .u64 (lim a 0), .int .u64 (lim a 1), .int .u64 (lim a 2), .int .u64 (lim a 3)] 24)).alloc (.cells #[.int .u64 (lim a 0), .int .u64 (lim a 1), .int .u64 (lim a 2), .int .u64 (lim a 3)] 129)) (some B) := grown_of_below B0 _
 rw [World.size_alloc] at A2
 have HADD := Lib.hid (addc M (a * 18446744073709551616 ^ place))
 have HUP : Hid (∀ i, place ≤ i → limN (a * 18446744073709551616 ^ place) i = limN a (i - place)) := fun i hi => by
  have h := limN_up a place (i - place)
  rwa [show place + (i - place) = i by omega] at h
 have HLOW := Lib.hid (fun i => limN_below M a place i)
 have HC0 := Lib.hid (cyN_start M a place)
 have HCL := Lib.hid (cyN_le M (a * 18446744073709551616 ^ place))
 have HNZ := Lib.hid (fun i (hi : 4 ≤ i) => limN_zero a i 4 hN hi)
 obtain ⟨A, hA⟩ : ∃ A, A = a * 18446744073709551616 ^ place := ⟨_, rfl⟩
 rw [← hA] at HADD HUP HLOW HC0 HCL ⊢
 have hp0 : (0 : Int) ≤ (place : Int) := by omega
 have hp1 : (place : Int) ≤ 8 := by omega
 clear h hN hA ha B0
 unfold wv
 go_enter Tryz.func174, Tryz.ntmps174
 go_wp2
 obtain ⟨W0, hW0⟩ : ∃ W0, (w.alloc (.cells #[.int .u64 (lim a 0), .int .u64 (lim a 1), .int .u64 (lim a 2), .int .u64 (lim a 3)] 24)).alloc (.cells #[.int .u64 (lim a 0), .int .u64 (lim a 1), .int .u64 (lim a 2), .int .u64 (lim a 3)] 129) = W0 := ⟨_, rfl⟩
 rw [hW0] at A1 A2 X0 G0 ⊢
 clear hW0 A1
 have hne : w.heap.size + 1 ≠ B := by omega
 go_loopw [7, 8] (fun c q wr => ∃ i : Nat, place ≤ i ∧ i ≤ 8 ∧ q = .int .i64 (i : Int) ∧ c = .int .u64 (cyN M A i : Int) ∧ Limbs wr B 143 8 (fun j => if j < i then (limN (M + A) j : Int) else (limN M j : Int)) ∧ Limbs wr (w.heap.size + 1) 129 4 (lim a) ∧ w.grownBy wr (some B)) (fun _ q _ => 8 - (intOf q).toNat)
 case atStart =>
  refine ⟨place, Nat.le_refl _, hpl, rfl, by rw [HC0.out]; rfl, X0.congr (fun j hj => ?_), A2, G0⟩
  by_cases h1 : j < place
  ·rw [if_pos h1, HLOW.out j h1]
  ·rw [if_neg h1]
 case round =>
  obtain ⟨i, hpi, hi, rfl, rfl, xx, aa, G⟩ := hrel
  clear A2 X0 G0
  obtain ⟨y0, k0⟩ : ∃ y, wr.cell? ⟨B, 0, none⟩ = some (.int .u64 y) := ⟨_, xx.cell (j := 0) (by omega)⟩
  obtain ⟨y1, k1⟩ : ∃ y, wr.cell? ⟨B, 1, none⟩ = some (.int .u64 y) := ⟨_, xx.cell (j := 1) (by omega)⟩
  obtain ⟨y2, k2⟩ : ∃ y, wr.cell? ⟨B, 2, none⟩ = some (.int .u64 y) := ⟨_, xx.cell (j := 2) (by omega)⟩
  obtain ⟨y3, k3⟩ : ∃ y, wr.cell? ⟨B, 3, none⟩ = some (.int .u64 y) := ⟨_, xx.cell (j := 3) (by omega)⟩
  obtain ⟨y4, k4⟩ : ∃ y, wr.cell? ⟨B, 4, none⟩ = some (.int .u64 y) := ⟨_, xx.cell (j := 4) (by omega)⟩
  obtain ⟨y5, k5⟩ : ∃ y, wr.cell? ⟨B, 5, none⟩ = some (.int .u64 y) := ⟨_, xx.cell (j := 5) (by omega)⟩
  obtain ⟨y6, k6⟩ : ∃ y, wr.cell? ⟨B, 6, none⟩ = some (.int .u64 y) := ⟨_, xx.cell (j := 6) (by omega)⟩
  obtain ⟨y7, k7⟩ : ∃ y, wr.cell? ⟨B, 7, none⟩ = some (.int .u64 y) := ⟨_, xx.cell (j := 7) (by omega)⟩
  have hi0 : (0 : Int) ≤ (i : Int) := by omega
  by_cases hlt : i < 8
  ·have hiI : (i : Int) < 8 := by omega
   obtain ⟨s1, s2⟩ := HADD.out i
   have hup := HUP.out i hpi
   have hc := HCL.out i
   have l1 := limN_lt M i
   have l2 := limN_lt a (i - place)
   have ci := xx.cell hlt
   rw [if_neg (by omega)] at ci
   have fi := xx.frozen i
   rw [hup] at s1 s2
   have u1 : U64 (limN M i : Int) := ⟨by omega, by omega⟩
   have u2 : U64 (limN a (i - place) : Int) := ⟨by omega, by omega⟩
   have ub : Bit (cyN M A i : Int) := ⟨by omega, by omega⟩
   have A1 : ∀ W, (callFunc 136 #[.int .u64 (limN M i : Int), .int .u64 (limN a (i - place) : Int), .int .u64 (cyN M A i : Int)]).run Tryz.prog W = .ok (.value (.tuple #[.int .u64 (limN (M + A) i : Int), .int .u64 (cyN M A (i + 1) : Int)])) W := fun W => by
    have h := run_addc _ _ _ u1 u2 ub W
    rw [h, s1, s2]
    congr 5
   have HX := Lib.hid xx
   have HAA := Lib.hid aa
   have HG := Lib.hid G
   have HI := Lib.hid (And.intro hpi hlt)
   have P1 : ∀ x : Ext wr, Calls Tryz.prog 178 #[.pointer (some ⟨w.heap.size + 1, 0, none⟩), .int .i64 ((i : Int) - (place : Int))] x.w fun e w'' => e = .returned (.int .u64 (limN a (i - place) : Int)) ∧ ∃ y : Ext wr, w'' = y.w := fun x => by
    have h := part4_any (w.heap.size + 1) (i - place) (lim a) (by omega) x.w (HAA.out.later x.below)
    have e : (if i - place < 4 then lim a (i - place) else 0) = (limN a (i - place) : Int) := by
     by_cases hp4 : i - place < 4
     ·rw [if_pos hp4, limN_lim a _ hp4]
     ·rw [if_neg hp4, HNZ.out _ (by omega)]; rfl
    rw [e, show ((i - place : Nat) : Int) = (i : Int) - (place : Int) by omega] at h
    exact h.mono fun e w' ⟨he, hw⟩ => ⟨he, x, hw.symm⟩
   have r1 : ∀ x : Ext wr, x.w.cell? ⟨B, i, none⟩ = some (.int .u64 (limN M i : Int)) := fun x => (x.cell (p := ⟨B, i, none⟩) HX.out.lt).trans ci
   have g1 : ∀ x : Ext wr, x.w.frozen? ⟨B, i, none⟩ = false := fun x => (x.frozen (p := ⟨B, i, none⟩) HX.out.lt).trans fi
   have dI0 : (0 : Int) ≤ (i : Int) - (place : Int) := by omega
   have dI1 : (i : Int) - (place : Int) ≤ 8 := by omega
   have hmx : Tryz.prog.follows .mixedOrders = true := by kernel_rfl
   clear hpi hi hlt s1 s2 hup hc l1 l2 ci fi u1 u2 ub xx aa G
   generalize hv1 : limN M i = v1 at *
   generalize hv2 : limN a (i - place) = v2 at *
   generalize hv3 : cyN M A i = v3 at *
   generalize hv4 : limN (M + A) i = v4 at *
   generalize hv5 : cyN M A (i + 1) = v5 at *
   have HV4 := Lib.hid hv4
   have HV5 := Lib.hid hv5
   clear hv1 hv2 hv3 hv4 hv5
   go_wp2
   clear k0 k1 k2 k3 k4 k5 k6 k7
   refine wp_region_mix (C := Grows wr) [some true, some true, some true, some true, some true, some true, some true, some true, some true, some true, some true, some true, some true, some true, some true, some true, some false, some true, some true, some true, none, none] hmx (by kernel_rfl) (by kernel_rfl) (grows_refl wr) ?_
   simp only [headOf, tailOf]
   repeat (go_big_quiet_step (with_reducible exact P1 _))
   refine wpQuiet_nil ?_
   rintro _ ⟨x, rfl⟩
   have N1 := Lib.hid ((HX.out.later x.below).set (k := i) HI.out.2 (v4 : Int))
   have N2 := Lib.hid ((HAA.out.later x.below).other (p := ⟨B, i, none⟩) hne (.int .u64 (v4 : Int)))
   have N3 := Lib.hid (grown_set (grown_ext HG.out x.below) (p := ⟨B, i, none⟩) (.inl rfl) (.int .u64 (v4 : Int)))
   go_wp2
   rw [calmPost_normal]
   clear r1 g1
   go_wp2
   go_roundw
   case rel =>
    refine ⟨i + 1, by have := HI.out.1; omega, HI.out.2, by simp, by rw [HV5.out], N1.out.congr (fun j _ => ?_), N2.out, N3.out⟩
    show (if j = i then (v4 : Int) else if j < i then (limN (M + A) j : Int) else (limN M j : Int)) = if j < i + 1 then (limN (M + A) j : Int) else (limN M j : Int)
    by_cases h1 : j = i
    ·rw [if_pos h1, if_pos (by omega), h1, HV4.out]
    ·rw [if_neg h1]
     by_cases h2 : j < i
     ·rw [if_pos h2, if_pos (by omega)]
     ·rw [if_neg h2, if_neg (by omega)]
   case measure => have := HI.out.2; simp [intOf]; omega
  ·obtain rfl : i = 8 := by omega
   have N1 := Lib.hid (xx.congr (m' := fun j => (limN (M + A) j : Int)) (fun j hj => if_pos hj))
   have N2 := Lib.hid G
   clear hpi hi hlt xx aa G
   go_wp2
   go_end0
   exact ⟨rfl, N1.out, N2.out⟩
end Go.Proofs.YtnkhmgmganejmaaGreatDoor
