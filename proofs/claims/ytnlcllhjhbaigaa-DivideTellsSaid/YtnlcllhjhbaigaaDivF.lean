/- Quotients and remainders of words, and of signed ones. For every word. -/
import Derived.Test.YtnlcllhjhbaigaaDivE
namespace Go.Proofs.Ytnlcllhjhbaigaa
open Go Go.RowKit Go.Shelf
attribute [local go_sem] Oper.semAt_some Grows wide_fn

set_option maxRecDepth 100000 in
set_option maxHeartbeats 4000000 in
theorem divide4_zero (a : Nat → Int) (w : World) :
    Calls Try.prog 20 #[.agg #[.int .u64 (a 0), .int .u64 (a 1), .int .u64 (a 2), .int .u64 (a 3)], .agg #[.int .u64 0, .int .u64 0, .int .u64 0, .int .u64 0]] w fun e w' => e = .returned (.tuple #[.agg #[.int .u64 0, .int .u64 0, .int .u64 0, .int .u64 0], .agg #[.int .u64 0, .int .u64 0, .int .u64 0, .int .u64 0]]) ∧ Below w.heap.size w w' := by
  have LQ : Limbs (((w.alloc (.cells #[.int .u64 (a 0), .int .u64 (a 1), .int .u64 (a 2), .int .u64 (a 3)] 33)).alloc (.cells #[.int .u64 0, .int .u64 0, .int .u64 0, .int .u64 0] 24)).alloc (.cells #[.int .u64 0, .int .u64 0, .int .u64 0, .int .u64 0] 33)) ((w.alloc (.cells #[.int .u64 (a 0), .int .u64 (a 1), .int .u64 (a 2), .int .u64 (a 3)] 33)).alloc (.cells #[.int .u64 0, .int .u64 0, .int .u64 0, .int .u64 0] 24)).heap.size 33 4 (fun _ => 0) := ⟨_, World.alloc_heap_new ((w.alloc (.cells #[.int .u64 (a 0), .int .u64 (a 1), .int .u64 (a 2), .int .u64 (a 3)] 33)).alloc (.cells #[.int .u64 0, .int .u64 0, .int .u64 0, .int .u64 0] 24)) _, rfl, fun j hj => by
    rcases (show j = 0 ∨ j = 1 ∨ j = 2 ∨ j = 3 by omega) with rfl | rfl | rfl | rfl <;> rfl⟩
  have AR := Arr4.mk0' (((w.alloc (.cells #[.int .u64 (a 0), .int .u64 (a 1), .int .u64 (a 2), .int .u64 (a 3)] 33)).alloc (.cells #[.int .u64 0, .int .u64 0, .int .u64 0, .int .u64 0] 24)).alloc (.cells #[.int .u64 0, .int .u64 0, .int .u64 0, .int .u64 0] 33)) 24
  have LD := Limbs.of4 (show Arr4 (((((w.alloc (.cells #[.int .u64 (a 0), .int .u64 (a 1), .int .u64 (a 2), .int .u64 (a 3)] 33)).alloc (.cells #[.int .u64 0, .int .u64 0, .int .u64 0, .int .u64 0] 24)).alloc (.cells #[.int .u64 0, .int .u64 0, .int .u64 0, .int .u64 0] 33)).alloc (.cells #[.int .u64 0, .int .u64 0, .int .u64 0, .int .u64 0] 24)).alloc (.cells #[.int .u64 0, .int .u64 0, .int .u64 0, .int .u64 0] 33)) ((((w.alloc (.cells #[.int .u64 (a 0), .int .u64 (a 1), .int .u64 (a 2), .int .u64 (a 3)] 33)).alloc (.cells #[.int .u64 0, .int .u64 0, .int .u64 0, .int .u64 0] 24)).alloc (.cells #[.int .u64 0, .int .u64 0, .int .u64 0, .int .u64 0] 33)).alloc (.cells #[.int .u64 0, .int .u64 0, .int .u64 0, .int .u64 0] 24)).heap.size 33 (fun _ => 0) from World.alloc_heap_new ((((w.alloc (.cells #[.int .u64 (a 0), .int .u64 (a 1), .int .u64 (a 2), .int .u64 (a 3)] 33)).alloc (.cells #[.int .u64 0, .int .u64 0, .int .u64 0, .int .u64 0] 24)).alloc (.cells #[.int .u64 0, .int .u64 0, .int .u64 0, .int .u64 0] 33)).alloc (.cells #[.int .u64 0, .int .u64 0, .int .u64 0, .int .u64 0] 24)) _)
  have LQ := (LQ.alloc (.cells #[.int .u64 0, .int .u64 0, .int .u64 0, .int .u64 0] 24)).alloc (.cells #[.int .u64 0, .int .u64 0, .int .u64 0, .int .u64 0] 33)
  have AR := AR.alloc (.cells #[.int .u64 0, .int .u64 0, .int .u64 0, .int .u64 0] 33)
  have B0 := (((((Below.refl _ w).alloc (Nat.le_refl _) (.cells #[.int .u64 (a 0), .int .u64 (a 1), .int .u64 (a 2), .int .u64 (a 3)] 33)).alloc (by simp) (.cells #[.int .u64 0, .int .u64 0, .int .u64 0, .int .u64 0] 24)).alloc (by simp; omega) (.cells #[.int .u64 0, .int .u64 0, .int .u64 0, .int .u64 0] 33)).alloc (by simp; omega) (.cells #[.int .u64 0, .int .u64 0, .int .u64 0, .int .u64 0] 24)).alloc (by simp; omega) (.cells #[.int .u64 0, .int .u64 0, .int .u64 0, .int .u64 0] 33)
  simp only [World.size_alloc] at LQ AR LD
  refine (callsIn_wide (n := 4)).1 ?_
  refine callsIn_of_wp_marks Try.func20 rfl trivial ?_ rfl
  simp only [Try.ntmps20, List.size_toArray, List.length_cons, List.length_nil, Nat.reduceAdd, Nat.reduceSub, Array.replicate_succ, Array.replicate_zero, List.push_toArray, List.append_toArray, List.nil_append, List.cons_append]
  gi_wp2_with fail
  obtain ⟨W0, hW0⟩ : ∃ W0, ((((w.alloc (.cells #[.int .u64 (a 0), .int .u64 (a 1), .int .u64 (a 2), .int .u64 (a 3)] 33)).alloc (.cells #[.int .u64 0, .int .u64 0, .int .u64 0, .int .u64 0] 24)).alloc (.cells #[.int .u64 0, .int .u64 0, .int .u64 0, .int .u64 0] 33)).alloc (.cells #[.int .u64 0, .int .u64 0, .int .u64 0, .int .u64 0] 24)).alloc (.cells #[.int .u64 0, .int .u64 0, .int .u64 0, .int .u64 0] 33) = W0 := ⟨_, rfl⟩
  rw [hW0] at LQ AR LD B0 ⊢
  clear hW0
  refine (callsIn_free free_wide (length4_any (w.heap.size + 1 + 1 + 1 + 1) 0 (fun _ => 0) (fun j _ => by simp) (by decide) W0 LD)).mono ?_
  rintro e w' ⟨⟨Lb, rfl, hLb, hLb9⟩, rfl⟩
  obtain rfl : Lb = 0 := hLb.2.1 rfl
  have HB := Lib.hid B0
  have hmx : Try.prog.follows .mixedOrders = true := by kernel_rfl
  have c0 := LQ.cell (j := 0) (by omega)
  have f0 := LQ.frozen 0
  have sc0 := setCell_same c0
  have c1 := LQ.cell (j := 1) (by omega)
  have f1 := LQ.frozen 1
  have sc1 := setCell_same c1
  have c2 := LQ.cell (j := 2) (by omega)
  have f2 := LQ.frozen 2
  have sc2 := setCell_same c2
  have c3 := LQ.cell (j := 3) (by omega)
  have f3 := LQ.frozen 3
  have sc3 := setCell_same c3
  have d0 := AR.cell (j := 0) (by omega)
  have g0 := AR.frozen 0
  have sd0 := setCell_same d0
  have d1 := AR.cell (j := 1) (by omega)
  have g1 := AR.frozen 1
  have sd1 := setCell_same d1
  have d2 := AR.cell (j := 2) (by omega)
  have g2 := AR.frozen 2
  have sd2 := setCell_same d2
  have d3 := AR.cell (j := 3) (by omega)
  have g3 := AR.frozen 3
  have sd3 := setCell_same d3
  clear hLb hLb9 LD LQ AR B0
  gi_wp2
  gi_region_o
  all_goals (try simp only [sc0, sc1, sc2, sc3, sd0, sd1, sd2, sd3])
  all_goals gi_wp2
  all_goals (try simp only [sc0, sc1, sc2, sc3, sd0, sd1, sd2, sd3])
  all_goals
    exact ⟨_, by simp [results, Try.f20, go_sem, c0, c1, c2, c3, d0, d1, d2, d3], rfl, HB.out.drew⟩

set_option maxRecDepth 100000 in
set_option maxHeartbeats 2000000 in
theorem div_ret (a b : Nat) (ha : W256 a) (hb : W256 b) : Ret Try.prog 5 #[wv a, wv b] (wv (a / b)) := by
  intro w
  have hN : a < 18446744073709551616 ^ 4 := ha
  by_cases h0 : b = 0
  · subst h0
    have ez : wv 0 = .agg #[.int .u64 0, .int .u64 0, .int .u64 0, .int .u64 0] := wv_of ⟨by decide, by decide, by decide, by decide⟩
    have ev : (a / 0) = 0 := by simp
    rw [ev, ez]
    have DZ := divide4_zero (lim a)
    clear ha hb hN ez ev
    unfold wv
    go_enter Try.func5, Try.ntmps5
    go_wp2_with fail
    refine (DZ _).mono ?_
    rintro e w1 ⟨rfl, q⟩
    have A3 := (Arr4.mk0' ((w.alloc (.cells #[.int .u64 (lim a 0), .int .u64 (lim a 1), .int .u64 (lim a 2), .int .u64 (lim a 3)] 24)).alloc (.cells #[.int .u64 0, .int .u64 0, .int .u64 0, .int .u64 0] 24)) 24)
    have B0 := (((Below.refl _ w).alloc (Nat.le_refl _) (.cells #[.int .u64 (lim a 0), .int .u64 (lim a 1), .int .u64 (lim a 2), .int .u64 (lim a 3)] 24)).alloc (by simp) (.cells #[.int .u64 0, .int .u64 0, .int .u64 0, .int .u64 0] 24)).alloc (by simp; omega) (.cells #[.int .u64 0, .int .u64 0, .int .u64 0, .int .u64 0] 24)
    rw [World.size_alloc, World.size_alloc] at A3
    have A4 := A3.later' q
    have BB := B0.trans (q.mono B0.size)
    clear A3 B0 q DZ
    have hz := BB.size
    have c0 := A4.cell (j := 0) (by omega)
    have c1 := A4.cell (j := 1) (by omega)
    have c2 := A4.cell (j := 2) (by omega)
    have c3 := A4.cell (j := 3) (by omega)
    have f0 := A4.frozen 0
    have f1 := A4.frozen 1
    have f2 := A4.frozen 2
    have f3 := A4.frozen 3
    have hlt := A4.lt
    have HA := Lib.hid A4
    have A5 := (A4.alloc (.cells #[.int .u64 0, .int .u64 0, .int .u64 0, .int .u64 0] 33)).alloc (.cells #[.int .u64 0, .int .u64 0, .int .u64 0, .int .u64 0] 24)
    have v0 := A5.cell (j := 0) (by omega)
    have v1 := A5.cell (j := 1) (by omega)
    have v2 := A5.cell (j := 2) (by omega)
    have v3 := A5.cell (j := 3) (by omega)
    have z0 := A5.frozen 0
    have z1 := A5.frozen 1
    have z2 := A5.frozen 2
    have z3 := A5.frozen 3
    clear A4 A5 c0 c1 c2 c3 f0 f1 f2 f3
    go_wp2
    refine bodyPost_ret (results_word rfl rfl (((HA.out.alloc _).alloc _).store (fun _ => 0))) rfl ⟨rfl, ?_⟩
    (repeat (first | exact BB | refine Below.setCell ?_ (by first | omega | (simp; done) | (simp; omega)) _ | refine Below.alloc ?_ (by first | omega | (simp; done) | (simp; omega)) _ | refine Below.drew ?_))
  · have DD := divide4_any a b (lim a) (fun j hj => limN_lim a j hj) hN hb h0
    have ev : (a / b) = a / b := by rfl
    have eq4 : ∀ j, j < 4 → (limN (a / b) j : Int) = lim (a / b) j := fun j hj => (limN_lim (a / b) j hj).symm
    rw [ev]
    simp only [eq4 0 (by omega), eq4 1 (by omega), eq4 2 (by omega), eq4 3 (by omega)] at DD
    clear ha hb hN ev h0 eq4
    unfold wv at DD ⊢
    go_enter Try.func5, Try.ntmps5
    go_wp2_with fail
    refine (DD _).mono ?_
    rintro e w1 ⟨rfl, q⟩
    have A3 := (Arr4.mk0' ((w.alloc (.cells #[.int .u64 (lim a 0), .int .u64 (lim a 1), .int .u64 (lim a 2), .int .u64 (lim a 3)] 24)).alloc (.cells #[.int .u64 (lim b 0), .int .u64 (lim b 1), .int .u64 (lim b 2), .int .u64 (lim b 3)] 24)) 24)
    have B0 := (((Below.refl _ w).alloc (Nat.le_refl _) (.cells #[.int .u64 (lim a 0), .int .u64 (lim a 1), .int .u64 (lim a 2), .int .u64 (lim a 3)] 24)).alloc (by simp) (.cells #[.int .u64 (lim b 0), .int .u64 (lim b 1), .int .u64 (lim b 2), .int .u64 (lim b 3)] 24)).alloc (by simp; omega) (.cells #[.int .u64 0, .int .u64 0, .int .u64 0, .int .u64 0] 24)
    rw [World.size_alloc, World.size_alloc] at A3
    have A4 := A3.later' q
    have BB := B0.trans (q.mono B0.size)
    clear A3 B0 q DD
    have hz := BB.size
    have c0 := A4.cell (j := 0) (by omega)
    have c1 := A4.cell (j := 1) (by omega)
    have c2 := A4.cell (j := 2) (by omega)
    have c3 := A4.cell (j := 3) (by omega)
    have f0 := A4.frozen 0
    have f1 := A4.frozen 1
    have f2 := A4.frozen 2
    have f3 := A4.frozen 3
    have hlt := A4.lt
    have HA := Lib.hid A4
    have A5 := (A4.alloc (.cells #[.int .u64 (lim (a / b) 0), .int .u64 (lim (a / b) 1), .int .u64 (lim (a / b) 2), .int .u64 (lim (a / b) 3)] 33)).alloc (.cells #[.int .u64 (lim (a % b) 0), .int .u64 (lim (a % b) 1), .int .u64 (lim (a % b) 2), .int .u64 (lim (a % b) 3)] 24)
    have v0 := A5.cell (j := 0) (by omega)
    have v1 := A5.cell (j := 1) (by omega)
    have v2 := A5.cell (j := 2) (by omega)
    have v3 := A5.cell (j := 3) (by omega)
    have z0 := A5.frozen 0
    have z1 := A5.frozen 1
    have z2 := A5.frozen 2
    have z3 := A5.frozen 3
    clear A4 A5 c0 c1 c2 c3 f0 f1 f2 f3
    go_wp2
    refine bodyPost_ret (results_word rfl rfl (((HA.out.alloc _).alloc _).store (lim (a / b)))) rfl ⟨rfl, ?_⟩
    (repeat (first | exact BB | refine Below.setCell ?_ (by first | omega | (simp; done) | (simp; omega)) _ | refine Below.alloc ?_ (by first | omega | (simp; done) | (simp; omega)) _ | refine Below.drew ?_))

set_option maxRecDepth 100000 in
set_option maxHeartbeats 2000000 in
theorem mod_ret (a b : Nat) (ha : W256 a) (hb : W256 b) : Ret Try.prog 7 #[wv a, wv b] (wv (if b = 0 then 0 else a % b)) := by
  intro w
  have hN : a < 18446744073709551616 ^ 4 := ha
  by_cases h0 : b = 0
  · subst h0
    have ez : wv 0 = .agg #[.int .u64 0, .int .u64 0, .int .u64 0, .int .u64 0] := wv_of ⟨by decide, by decide, by decide, by decide⟩
    have ev : (if (0 : Nat) = 0 then 0 else a % 0) = 0 := by simp
    rw [ev, ez]
    have DZ := divide4_zero (lim a)
    clear ha hb hN ez ev
    unfold wv
    go_enter Try.func7, Try.ntmps7
    go_wp2_with fail
    refine (DZ _).mono ?_
    rintro e w1 ⟨rfl, q⟩
    have A3 := (Arr4.mk0' ((w.alloc (.cells #[.int .u64 (lim a 0), .int .u64 (lim a 1), .int .u64 (lim a 2), .int .u64 (lim a 3)] 24)).alloc (.cells #[.int .u64 0, .int .u64 0, .int .u64 0, .int .u64 0] 24)) 24)
    have B0 := (((Below.refl _ w).alloc (Nat.le_refl _) (.cells #[.int .u64 (lim a 0), .int .u64 (lim a 1), .int .u64 (lim a 2), .int .u64 (lim a 3)] 24)).alloc (by simp) (.cells #[.int .u64 0, .int .u64 0, .int .u64 0, .int .u64 0] 24)).alloc (by simp; omega) (.cells #[.int .u64 0, .int .u64 0, .int .u64 0, .int .u64 0] 24)
    rw [World.size_alloc, World.size_alloc] at A3
    have A4 := A3.later' q
    have BB := B0.trans (q.mono B0.size)
    clear A3 B0 q DZ
    have hz := BB.size
    have c0 := A4.cell (j := 0) (by omega)
    have c1 := A4.cell (j := 1) (by omega)
    have c2 := A4.cell (j := 2) (by omega)
    have c3 := A4.cell (j := 3) (by omega)
    have f0 := A4.frozen 0
    have f1 := A4.frozen 1
    have f2 := A4.frozen 2
    have f3 := A4.frozen 3
    have hlt := A4.lt
    have HA := Lib.hid A4
    have A5 := (A4.alloc (.cells #[.int .u64 0, .int .u64 0, .int .u64 0, .int .u64 0] 33)).alloc (.cells #[.int .u64 0, .int .u64 0, .int .u64 0, .int .u64 0] 24)
    have v0 := A5.cell (j := 0) (by omega)
    have v1 := A5.cell (j := 1) (by omega)
    have v2 := A5.cell (j := 2) (by omega)
    have v3 := A5.cell (j := 3) (by omega)
    have z0 := A5.frozen 0
    have z1 := A5.frozen 1
    have z2 := A5.frozen 2
    have z3 := A5.frozen 3
    clear A4 A5 c0 c1 c2 c3 f0 f1 f2 f3
    go_wp2
    refine bodyPost_ret (results_word rfl rfl (((HA.out.alloc _).alloc _).store (fun _ => 0))) rfl ⟨rfl, ?_⟩
    (repeat (first | exact BB | refine Below.setCell ?_ (by first | omega | (simp; done) | (simp; omega)) _ | refine Below.alloc ?_ (by first | omega | (simp; done) | (simp; omega)) _ | refine Below.drew ?_))
  · have DD := divide4_any a b (lim a) (fun j hj => limN_lim a j hj) hN hb h0
    have ev : (if b = 0 then 0 else a % b) = a % b := by rw [if_neg h0]
    have eq4 : ∀ j, j < 4 → (limN (a / b) j : Int) = lim (a / b) j := fun j hj => (limN_lim (a / b) j hj).symm
    rw [ev]
    simp only [eq4 0 (by omega), eq4 1 (by omega), eq4 2 (by omega), eq4 3 (by omega)] at DD
    clear ha hb hN ev h0 eq4
    unfold wv at DD ⊢
    go_enter Try.func7, Try.ntmps7
    go_wp2_with fail
    refine (DD _).mono ?_
    rintro e w1 ⟨rfl, q⟩
    have A3 := (Arr4.mk0' ((w.alloc (.cells #[.int .u64 (lim a 0), .int .u64 (lim a 1), .int .u64 (lim a 2), .int .u64 (lim a 3)] 24)).alloc (.cells #[.int .u64 (lim b 0), .int .u64 (lim b 1), .int .u64 (lim b 2), .int .u64 (lim b 3)] 24)) 24)
    have B0 := (((Below.refl _ w).alloc (Nat.le_refl _) (.cells #[.int .u64 (lim a 0), .int .u64 (lim a 1), .int .u64 (lim a 2), .int .u64 (lim a 3)] 24)).alloc (by simp) (.cells #[.int .u64 (lim b 0), .int .u64 (lim b 1), .int .u64 (lim b 2), .int .u64 (lim b 3)] 24)).alloc (by simp; omega) (.cells #[.int .u64 0, .int .u64 0, .int .u64 0, .int .u64 0] 24)
    rw [World.size_alloc, World.size_alloc] at A3
    have A4 := A3.later' q
    have BB := B0.trans (q.mono B0.size)
    clear A3 B0 q DD
    have hz := BB.size
    have c0 := A4.cell (j := 0) (by omega)
    have c1 := A4.cell (j := 1) (by omega)
    have c2 := A4.cell (j := 2) (by omega)
    have c3 := A4.cell (j := 3) (by omega)
    have f0 := A4.frozen 0
    have f1 := A4.frozen 1
    have f2 := A4.frozen 2
    have f3 := A4.frozen 3
    have hlt := A4.lt
    have HA := Lib.hid A4
    have A5 := (A4.alloc (.cells #[.int .u64 (lim (a / b) 0), .int .u64 (lim (a / b) 1), .int .u64 (lim (a / b) 2), .int .u64 (lim (a / b) 3)] 33)).alloc (.cells #[.int .u64 (lim (a % b) 0), .int .u64 (lim (a % b) 1), .int .u64 (lim (a % b) 2), .int .u64 (lim (a % b) 3)] 24)
    have v0 := A5.cell (j := 0) (by omega)
    have v1 := A5.cell (j := 1) (by omega)
    have v2 := A5.cell (j := 2) (by omega)
    have v3 := A5.cell (j := 3) (by omega)
    have z0 := A5.frozen 0
    have z1 := A5.frozen 1
    have z2 := A5.frozen 2
    have z3 := A5.frozen 3
    clear A4 A5 c0 c1 c2 c3 f0 f1 f2 f3
    go_wp2
    refine bodyPost_ret (results_word rfl rfl (((HA.out.alloc _).alloc _).store (lim (a % b)))) rfl ⟨rfl, ?_⟩
    (repeat (first | exact BB | refine Below.setCell ?_ (by first | omega | (simp; done) | (simp; omega)) _ | refine Below.alloc ?_ (by first | omega | (simp; done) | (simp; omega)) _ | refine Below.drew ?_))
end Go.Proofs.Ytnlcllhjhbaigaa
