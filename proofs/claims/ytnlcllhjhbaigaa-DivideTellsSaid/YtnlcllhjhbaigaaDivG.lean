/- Quotients and remainders of signed words. For every word. -/
import Derived.Test.YtnlcllhjhbaigaaDivF
namespace Go.Proofs.Ytnlcllhjhbaigaa
open Go Go.RowKit Go.Shelf
attribute [local go_sem] Oper.semAt_some Grows wide_fn

theorem Arr4.mk4' (W : World) (t : TypeId) (m : Nat → Int) : Arr4 (W.alloc (.cells #[.int .u64 (m 0), .int .u64 (m 1), .int .u64 (m 2), .int .u64 (m 3)] t)) W.heap.size t m := World.alloc_heap_new W _
/-- A signed number below 0. -/
def negN (a : Nat) : Bool := decide (57896044618658097711785492504343953926634992332820282019728792003956564819968 ≤ a)
/-- On the other side of 0, if so. -/
def sgN (a : Nat) (s : Bool) : Nat := if s = true then wsub 0 a else a
def szN (a : Nat) : Nat := sgN a (negN a)
theorem sgN_lt (a : Nat) (s : Bool) (ha : W256 a) : W256 (sgN a s) := by
  unfold sgN
  split
  · unfold wsub; exact wmod_lt _
  · exact ha

set_option maxRecDepth 100000 in
set_option maxHeartbeats 1000000 in
theorem negative_ret (a : Nat) (ha : W256 a) : Ret Try.prog 25 #[wv a] (.bool (negN a)) := by
  intro w
  have hn := num_lim a ha
  have l0 := lim_u64 a 0
  have l1 := lim_u64 a 1
  have l2 := lim_u64 a 2
  have l3 := lim_u64 a 3
  unfold U64 at l0 l1 l2 l3
  unfold num at hn
  have HB := Lib.hid ((Below.refl _ w).alloc (Nat.le_refl _) (.cells #[.int .u64 (lim a 0), .int .u64 (lim a 1), .int .u64 (lim a 2), .int .u64 (lim a 3)] 24))
  unfold wv negN
  by_cases h : 57896044618658097711785492504343953926634992332820282019728792003956564819968 ≤ a
  · have e : lim a 3 / 9223372036854775808 = 1 := by omega
    rw [decide_eq_true h]
    obtain ⟨p3, q3⟩ := l3
    clear hn l0 l1 l2 h ha
    generalize lim a 3 = z3 at *
    go_enter Try.func25, Try.ntmps25
    go_wp2
    go_ret
    exact ⟨rfl, HB.out⟩
  · have e : lim a 3 / 9223372036854775808 = 0 := by omega
    rw [decide_eq_false h]
    obtain ⟨p3, q3⟩ := l3
    clear hn l0 l1 l2 h ha
    generalize lim a 3 = z3 at *
    go_enter Try.func25, Try.ntmps25
    go_wp2
    go_ret
    exact ⟨rfl, HB.out⟩

set_option maxRecDepth 100000 in
set_option maxHeartbeats 1000000 in
theorem signed_ret (a : Nat) (s : Bool) (ha : W256 a) : Ret Try.prog 23 #[wv a, .bool s] (wv (sgN a s)) := by
  intro w
  have A0 := (Arr4.mk4' w 24 (lim a)).alloc (.cells #[.int .u64 0, .int .u64 0, .int .u64 0, .int .u64 0] 24)
  have AR := Arr4.mk0' (w.alloc (.cells #[.int .u64 (lim a 0), .int .u64 (lim a 1), .int .u64 (lim a 2), .int .u64 (lim a 3)] 24)) 24
  have B0 := ((Below.refl _ w).alloc (Nat.le_refl _) (.cells #[.int .u64 (lim a 0), .int .u64 (lim a 1), .int .u64 (lim a 2), .int .u64 (lim a 3)] 24)).alloc (by simp) (.cells #[.int .u64 0, .int .u64 0, .int .u64 0, .int .u64 0] 24)
  rw [World.size_alloc] at AR
  have SS := sub_ret 0 a (by unfold W256; omega) ha
  rw [show wv 0 = .agg #[.int .u64 0, .int .u64 0, .int .u64 0, .int .u64 0] from wv_of ⟨by decide, by decide, by decide, by decide⟩] at SS
  cases s
  · have AQ := Arr4.mk4' (w.alloc (.cells #[.int .u64 (lim a 0), .int .u64 (lim a 1), .int .u64 (lim a 2), .int .u64 (lim a 3)] 24)) 24 (lim a)
    have BQ := ((Below.refl _ w).alloc (Nat.le_refl _) (.cells #[.int .u64 (lim a 0), .int .u64 (lim a 1), .int .u64 (lim a 2), .int .u64 (lim a 3)] 24)).alloc (by simp) (.cells #[.int .u64 (lim a 0), .int .u64 (lim a 1), .int .u64 (lim a 2), .int .u64 (lim a 3)] 24)
    rw [World.size_alloc] at AQ
    rw [show sgN a false = a from rfl]
    clear SS A0 AR B0
    unfold wv
    go_enter Try.func23, Try.ntmps23
    go_wp2
    exact bodyPost_ret (results_word rfl rfl AQ) rfl ⟨rfl, BQ⟩
  · rw [show sgN a true = wsub 0 a from rfl]
    unfold wv at SS ⊢
    go_enter Try.func23, Try.ntmps23
    go_wp2_with fail
    obtain ⟨W0, hW0⟩ : ∃ W0, (w.alloc (.cells #[.int .u64 (lim a 0), .int .u64 (lim a 1), .int .u64 (lim a 2), .int .u64 (lim a 3)] 24)).alloc (.cells #[.int .u64 0, .int .u64 0, .int .u64 0, .int .u64 0] 24) = W0 := ⟨_, rfl⟩
    rw [hW0] at A0 AR B0 ⊢
    clear hW0
    refine (SS _).mono ?_
    rintro e w1 ⟨rfl, q⟩
    have A4 := AR.later' q
    have BB := B0.trans (q.mono B0.size)
    have c0 := A4.cell (j := 0) (by omega)
    have c1 := A4.cell (j := 1) (by omega)
    have c2 := A4.cell (j := 2) (by omega)
    have c3 := A4.cell (j := 3) (by omega)
    have f0 := A4.frozen 0
    have f1 := A4.frozen 1
    have f2 := A4.frozen 2
    have f3 := A4.frozen 3
    have HA := Lib.hid A4
    clear A0 AR B0 A4 q SS
    go_wp2
    refine bodyPost_ret (results_word rfl rfl (HA.out.store (lim (wsub 0 a)))) rfl ⟨rfl, ?_⟩
    (repeat (first | exact BB | refine Below.setCell ?_ (by first | omega | (simp; done) | (simp; omega)) _ | refine Below.alloc ?_ (by first | omega | (simp; done) | (simp; omega)) _))

set_option maxRecDepth 100000 in
set_option maxHeartbeats 4000000 in
theorem size_ret (a : Nat) (ha : W256 a) : Ret Try.prog 24 #[wv a] (wv (szN a)) := by
  intro w
  have N1 := negative_ret a ha
  have S1 := signed_ret a (negN a) ha
  have A0 := ((Arr4.mk4' w 24 (lim a)).alloc (.cells #[.int .u64 0, .int .u64 0, .int .u64 0, .int .u64 0] 24))
  have AR := Arr4.mk0' (w.alloc (.cells #[.int .u64 (lim a 0), .int .u64 (lim a 1), .int .u64 (lim a 2), .int .u64 (lim a 3)] 24)) 24
  have B0 := ((Below.refl _ w).alloc (by first | exact Nat.le_refl _ | (simp; done) | (simp; omega)) (.cells #[.int .u64 (lim a 0), .int .u64 (lim a 1), .int .u64 (lim a 2), .int .u64 (lim a 3)] 24)).alloc (by first | exact Nat.le_refl _ | (simp; done) | (simp; omega)) (.cells #[.int .u64 0, .int .u64 0, .int .u64 0, .int .u64 0] 24)
  simp only [World.size_alloc] at  AR
  unfold wv at *
  go_enter Try.func24, Try.ntmps24
  go_wp2_with fail
  obtain ⟨W0, hW0⟩ : ∃ W0, (w.alloc (.cells #[.int .u64 (lim a 0), .int .u64 (lim a 1), .int .u64 (lim a 2), .int .u64 (lim a 3)] 24)).alloc (.cells #[.int .u64 0, .int .u64 0, .int .u64 0, .int .u64 0] 24) = W0 := ⟨_, rfl⟩
  rw [hW0] at A0 AR B0 ⊢
  clear hW0
  have hmx : Try.prog.follows .mixedOrders = true := by kernel_rfl
  have HA0 := Lib.hid A0
  have HAR := Lib.hid AR
  have HB := Lib.hid B0
  have m00 : ∀ x : Ext W0, x.w.cell? ⟨w.heap.size, 0, none⟩ = some (.int .u64 (lim a 0)) := fun x => (HA0.out.later' x.below).cell (by omega)
  have m01 : ∀ x : Ext W0, x.w.cell? ⟨w.heap.size, 1, none⟩ = some (.int .u64 (lim a 1)) := fun x => (HA0.out.later' x.below).cell (by omega)
  have m02 : ∀ x : Ext W0, x.w.cell? ⟨w.heap.size, 2, none⟩ = some (.int .u64 (lim a 2)) := fun x => (HA0.out.later' x.below).cell (by omega)
  have m03 : ∀ x : Ext W0, x.w.cell? ⟨w.heap.size, 3, none⟩ = some (.int .u64 (lim a 3)) := fun x => (HA0.out.later' x.below).cell (by omega)
  have r0 : ∀ x : Ext W0, x.w.cell? ⟨w.heap.size + 1, 0, none⟩ = some (.int .u64 0) := fun x => (HAR.out.later' x.below).cell (by omega)
  have g0 : ∀ x : Ext W0, x.w.frozen? ⟨w.heap.size + 1, 0, none⟩ = false := fun x => (HAR.out.later' x.below).frozen 0
  have r1 : ∀ x : Ext W0, x.w.cell? ⟨w.heap.size + 1, 1, none⟩ = some (.int .u64 0) := fun x => (HAR.out.later' x.below).cell (by omega)
  have g1 : ∀ x : Ext W0, x.w.frozen? ⟨w.heap.size + 1, 1, none⟩ = false := fun x => (HAR.out.later' x.below).frozen 1
  have r2 : ∀ x : Ext W0, x.w.cell? ⟨w.heap.size + 1, 2, none⟩ = some (.int .u64 0) := fun x => (HAR.out.later' x.below).cell (by omega)
  have g2 : ∀ x : Ext W0, x.w.frozen? ⟨w.heap.size + 1, 2, none⟩ = false := fun x => (HAR.out.later' x.below).frozen 2
  have r3 : ∀ x : Ext W0, x.w.cell? ⟨w.heap.size + 1, 3, none⟩ = some (.int .u64 0) := fun x => (HAR.out.later' x.below).cell (by omega)
  have g3 : ∀ x : Ext W0, x.w.frozen? ⟨w.heap.size + 1, 3, none⟩ = false := fun x => (HAR.out.later' x.below).frozen 3
  clear A0 AR B0
  refine wp_region_mix (C := Grows W0) [some true, some true, some true, some true, none] hmx (by kernel_rfl) (by kernel_rfl) (grows_refl W0) ?_
  simp only [headOf, tailOf]
  repeat (go_big_quiet_step (first | (with_reducible exact Ret.at N1 _) | (with_reducible exact Ret.at S1 _)))
  refine wpQuiet_nil ?_
  rintro _ ⟨x, rfl⟩
  have AF := (HAR.out.later' x.below).store (lim (szN a))
  have BF := HB.out.trans (x.below.mono HB.out.size)
  go_wp2
  rw [calmPost_normal]
  go_wp2
  refine bodyPost_ret (results_word rfl rfl AF) rfl ⟨rfl, ?_⟩
  exact (((BF.setCell (p := ⟨w.heap.size + 1, 0, none⟩) (by first | (simp; done) | (simp; omega)) _).setCell (p := ⟨w.heap.size + 1, 1, none⟩) (by first | (simp; done) | (simp; omega)) _).setCell (p := ⟨w.heap.size + 1, 2, none⟩) (by first | (simp; done) | (simp; omega)) _).setCell (p := ⟨w.heap.size + 1, 3, none⟩) (by first | (simp; done) | (simp; omega)) _

set_option maxRecDepth 100000 in
set_option maxHeartbeats 4000000 in
theorem sdiv_ret (a b : Nat) (ha : W256 a) (hb : W256 b) : Ret Try.prog 9 #[wv a, wv b] (wv (sgN (szN a / szN b) (negN a != negN b))) := by
  intro w
  have Z1 := size_ret a ha
  have Z2 := size_ret b hb
  have za : W256 (szN a) := sgN_lt _ _ ha
  have zb : W256 (szN b) := sgN_lt _ _ hb
  have D1 := div_ret (szN a) (szN b) za zb
  have N1 := negative_ret a ha
  have N2 := negative_ret b hb
  have hq : W256 (szN a / szN b) := by unfold W256 at *; exact Nat.lt_of_le_of_lt (Nat.div_le_self _ _) za
  have S1 := signed_ret (szN a / szN b) (negN a != negN b) hq
  obtain ⟨v, hv⟩ : ∃ v, v = sgN (szN a / szN b) (negN a != negN b) := ⟨_, rfl⟩
  rw [← hv] at S1 ⊢
  clear hv
  generalize szN a / szN b = q at *
  generalize szN a = sa at *
  generalize szN b = sb at *
  generalize negN a = na at *
  generalize negN b = nb at *
  obtain ⟨nx, hnx⟩ : ∃ nx, nx = (na != nb) := ⟨_, rfl⟩
  rw [← hnx] at S1
  clear za zb hq ha hb
  have A0 := (((Arr4.mk4' w 24 (lim a)).alloc (.cells #[.int .u64 (lim b 0), .int .u64 (lim b 1), .int .u64 (lim b 2), .int .u64 (lim b 3)] 24)).alloc (.cells #[.int .u64 0, .int .u64 0, .int .u64 0, .int .u64 0] 24))
  have A1 := ((Arr4.mk4' (w.alloc (.cells #[.int .u64 (lim a 0), .int .u64 (lim a 1), .int .u64 (lim a 2), .int .u64 (lim a 3)] 24)) 24 (lim b)).alloc (.cells #[.int .u64 0, .int .u64 0, .int .u64 0, .int .u64 0] 24))
  have AR := Arr4.mk0' ((w.alloc (.cells #[.int .u64 (lim a 0), .int .u64 (lim a 1), .int .u64 (lim a 2), .int .u64 (lim a 3)] 24)).alloc (.cells #[.int .u64 (lim b 0), .int .u64 (lim b 1), .int .u64 (lim b 2), .int .u64 (lim b 3)] 24)) 24
  have B0 := (((Below.refl _ w).alloc (by first | exact Nat.le_refl _ | (simp; done) | (simp; omega)) (.cells #[.int .u64 (lim a 0), .int .u64 (lim a 1), .int .u64 (lim a 2), .int .u64 (lim a 3)] 24)).alloc (by first | exact Nat.le_refl _ | (simp; done) | (simp; omega)) (.cells #[.int .u64 (lim b 0), .int .u64 (lim b 1), .int .u64 (lim b 2), .int .u64 (lim b 3)] 24)).alloc (by first | exact Nat.le_refl _ | (simp; done) | (simp; omega)) (.cells #[.int .u64 0, .int .u64 0, .int .u64 0, .int .u64 0] 24)
  simp only [World.size_alloc] at A1 AR
  unfold wv at *
  go_enter Try.func9, Try.ntmps9
  go_wp2_with fail
  obtain ⟨W0, hW0⟩ : ∃ W0, ((w.alloc (.cells #[.int .u64 (lim a 0), .int .u64 (lim a 1), .int .u64 (lim a 2), .int .u64 (lim a 3)] 24)).alloc (.cells #[.int .u64 (lim b 0), .int .u64 (lim b 1), .int .u64 (lim b 2), .int .u64 (lim b 3)] 24)).alloc (.cells #[.int .u64 0, .int .u64 0, .int .u64 0, .int .u64 0] 24) = W0 := ⟨_, rfl⟩
  rw [hW0] at A0 A1 AR B0 ⊢
  clear hW0
  have hmx : Try.prog.follows .mixedOrders = true := by kernel_rfl
  have HA0 := Lib.hid A0
  have HA1 := Lib.hid A1
  have HAR := Lib.hid AR
  have HB := Lib.hid B0
  have m00 : ∀ x : Ext W0, x.w.cell? ⟨w.heap.size, 0, none⟩ = some (.int .u64 (lim a 0)) := fun x => (HA0.out.later' x.below).cell (by omega)
  have m01 : ∀ x : Ext W0, x.w.cell? ⟨w.heap.size, 1, none⟩ = some (.int .u64 (lim a 1)) := fun x => (HA0.out.later' x.below).cell (by omega)
  have m02 : ∀ x : Ext W0, x.w.cell? ⟨w.heap.size, 2, none⟩ = some (.int .u64 (lim a 2)) := fun x => (HA0.out.later' x.below).cell (by omega)
  have m03 : ∀ x : Ext W0, x.w.cell? ⟨w.heap.size, 3, none⟩ = some (.int .u64 (lim a 3)) := fun x => (HA0.out.later' x.below).cell (by omega)
  have m10 : ∀ x : Ext W0, x.w.cell? ⟨w.heap.size + 1, 0, none⟩ = some (.int .u64 (lim b 0)) := fun x => (HA1.out.later' x.below).cell (by omega)
  have m11 : ∀ x : Ext W0, x.w.cell? ⟨w.heap.size + 1, 1, none⟩ = some (.int .u64 (lim b 1)) := fun x => (HA1.out.later' x.below).cell (by omega)
  have m12 : ∀ x : Ext W0, x.w.cell? ⟨w.heap.size + 1, 2, none⟩ = some (.int .u64 (lim b 2)) := fun x => (HA1.out.later' x.below).cell (by omega)
  have m13 : ∀ x : Ext W0, x.w.cell? ⟨w.heap.size + 1, 3, none⟩ = some (.int .u64 (lim b 3)) := fun x => (HA1.out.later' x.below).cell (by omega)
  have r0 : ∀ x : Ext W0, x.w.cell? ⟨w.heap.size + 1 + 1, 0, none⟩ = some (.int .u64 0) := fun x => (HAR.out.later' x.below).cell (by omega)
  have g0 : ∀ x : Ext W0, x.w.frozen? ⟨w.heap.size + 1 + 1, 0, none⟩ = false := fun x => (HAR.out.later' x.below).frozen 0
  have r1 : ∀ x : Ext W0, x.w.cell? ⟨w.heap.size + 1 + 1, 1, none⟩ = some (.int .u64 0) := fun x => (HAR.out.later' x.below).cell (by omega)
  have g1 : ∀ x : Ext W0, x.w.frozen? ⟨w.heap.size + 1 + 1, 1, none⟩ = false := fun x => (HAR.out.later' x.below).frozen 1
  have r2 : ∀ x : Ext W0, x.w.cell? ⟨w.heap.size + 1 + 1, 2, none⟩ = some (.int .u64 0) := fun x => (HAR.out.later' x.below).cell (by omega)
  have g2 : ∀ x : Ext W0, x.w.frozen? ⟨w.heap.size + 1 + 1, 2, none⟩ = false := fun x => (HAR.out.later' x.below).frozen 2
  have r3 : ∀ x : Ext W0, x.w.cell? ⟨w.heap.size + 1 + 1, 3, none⟩ = some (.int .u64 0) := fun x => (HAR.out.later' x.below).cell (by omega)
  have g3 : ∀ x : Ext W0, x.w.frozen? ⟨w.heap.size + 1 + 1, 3, none⟩ = false := fun x => (HAR.out.later' x.below).frozen 3
  clear A0 A1 AR B0
  cases na <;> cases nb <;> first | obtain rfl : nx = true := hnx | obtain rfl : nx = false := hnx
  all_goals
    refine wp_region_mix (C := Grows W0) [some true, some true, some true, some true, some true, some true, some true, some true, some true, some true, some true, none] hmx (by kernel_rfl) (by kernel_rfl) (grows_refl W0) ?_
    simp only [headOf, tailOf]
    repeat (go_big_quiet_step (first | (with_reducible exact Ret.at Z1 _) | (with_reducible exact Ret.at Z2 _) | (with_reducible exact Ret.at D1 _) | (with_reducible exact Ret.at N1 _) | (with_reducible exact Ret.at N2 _) | (with_reducible exact Ret.at S1 _)))
    refine wpQuiet_nil ?_
    rintro _ ⟨x, rfl⟩
    have AF := (HAR.out.later' x.below).store (lim (v))
    have BF := HB.out.trans (x.below.mono HB.out.size)
    go_wp2
    rw [calmPost_normal]
    go_wp2
    refine bodyPost_ret (results_word rfl rfl AF) rfl ⟨rfl, ?_⟩
    exact (((BF.setCell (p := ⟨w.heap.size + 1 + 1, 0, none⟩) (by first | (simp; done) | (simp; omega)) _).setCell (p := ⟨w.heap.size + 1 + 1, 1, none⟩) (by first | (simp; done) | (simp; omega)) _).setCell (p := ⟨w.heap.size + 1 + 1, 2, none⟩) (by first | (simp; done) | (simp; omega)) _).setCell (p := ⟨w.heap.size + 1 + 1, 3, none⟩) (by first | (simp; done) | (simp; omega)) _

set_option maxRecDepth 100000 in
set_option maxHeartbeats 4000000 in
theorem smod_ret (a b : Nat) (ha : W256 a) (hb : W256 b) : Ret Try.prog 11 #[wv a, wv b] (wv (sgN (if szN b = 0 then 0 else szN a % szN b) (negN a))) := by
  intro w
  have Z1 := size_ret a ha
  have Z2 := size_ret b hb
  have za : W256 (szN a) := sgN_lt _ _ ha
  have zb : W256 (szN b) := sgN_lt _ _ hb
  have D1 := mod_ret (szN a) (szN b) za zb
  have N1 := negative_ret a ha
  have hq : W256 (if szN b = 0 then 0 else szN a % szN b) := by
    unfold W256 at *
    split
    · omega
    · exact Nat.lt_of_le_of_lt (Nat.mod_le _ _) za
  have S1 := signed_ret (if szN b = 0 then 0 else szN a % szN b) (negN a) hq
  obtain ⟨v, hv⟩ : ∃ v, v = sgN (if szN b = 0 then 0 else szN a % szN b) (negN a) := ⟨_, rfl⟩
  rw [← hv] at S1 ⊢
  clear hv
  generalize (if szN b = 0 then 0 else szN a % szN b) = q at *
  generalize szN a = sa at *
  generalize szN b = sb at *
  generalize negN a = na at *
  clear za zb hq ha hb
  have A0 := (((Arr4.mk4' w 24 (lim a)).alloc (.cells #[.int .u64 (lim b 0), .int .u64 (lim b 1), .int .u64 (lim b 2), .int .u64 (lim b 3)] 24)).alloc (.cells #[.int .u64 0, .int .u64 0, .int .u64 0, .int .u64 0] 24))
  have A1 := ((Arr4.mk4' (w.alloc (.cells #[.int .u64 (lim a 0), .int .u64 (lim a 1), .int .u64 (lim a 2), .int .u64 (lim a 3)] 24)) 24 (lim b)).alloc (.cells #[.int .u64 0, .int .u64 0, .int .u64 0, .int .u64 0] 24))
  have AR := Arr4.mk0' ((w.alloc (.cells #[.int .u64 (lim a 0), .int .u64 (lim a 1), .int .u64 (lim a 2), .int .u64 (lim a 3)] 24)).alloc (.cells #[.int .u64 (lim b 0), .int .u64 (lim b 1), .int .u64 (lim b 2), .int .u64 (lim b 3)] 24)) 24
  have B0 := (((Below.refl _ w).alloc (by first | exact Nat.le_refl _ | (simp; done) | (simp; omega)) (.cells #[.int .u64 (lim a 0), .int .u64 (lim a 1), .int .u64 (lim a 2), .int .u64 (lim a 3)] 24)).alloc (by first | exact Nat.le_refl _ | (simp; done) | (simp; omega)) (.cells #[.int .u64 (lim b 0), .int .u64 (lim b 1), .int .u64 (lim b 2), .int .u64 (lim b 3)] 24)).alloc (by first | exact Nat.le_refl _ | (simp; done) | (simp; omega)) (.cells #[.int .u64 0, .int .u64 0, .int .u64 0, .int .u64 0] 24)
  simp only [World.size_alloc] at A1 AR
  unfold wv at *
  go_enter Try.func11, Try.ntmps11
  go_wp2_with fail
  obtain ⟨W0, hW0⟩ : ∃ W0, ((w.alloc (.cells #[.int .u64 (lim a 0), .int .u64 (lim a 1), .int .u64 (lim a 2), .int .u64 (lim a 3)] 24)).alloc (.cells #[.int .u64 (lim b 0), .int .u64 (lim b 1), .int .u64 (lim b 2), .int .u64 (lim b 3)] 24)).alloc (.cells #[.int .u64 0, .int .u64 0, .int .u64 0, .int .u64 0] 24) = W0 := ⟨_, rfl⟩
  rw [hW0] at A0 A1 AR B0 ⊢
  clear hW0
  have hmx : Try.prog.follows .mixedOrders = true := by kernel_rfl
  have HA0 := Lib.hid A0
  have HA1 := Lib.hid A1
  have HAR := Lib.hid AR
  have HB := Lib.hid B0
  have m00 : ∀ x : Ext W0, x.w.cell? ⟨w.heap.size, 0, none⟩ = some (.int .u64 (lim a 0)) := fun x => (HA0.out.later' x.below).cell (by omega)
  have m01 : ∀ x : Ext W0, x.w.cell? ⟨w.heap.size, 1, none⟩ = some (.int .u64 (lim a 1)) := fun x => (HA0.out.later' x.below).cell (by omega)
  have m02 : ∀ x : Ext W0, x.w.cell? ⟨w.heap.size, 2, none⟩ = some (.int .u64 (lim a 2)) := fun x => (HA0.out.later' x.below).cell (by omega)
  have m03 : ∀ x : Ext W0, x.w.cell? ⟨w.heap.size, 3, none⟩ = some (.int .u64 (lim a 3)) := fun x => (HA0.out.later' x.below).cell (by omega)
  have m10 : ∀ x : Ext W0, x.w.cell? ⟨w.heap.size + 1, 0, none⟩ = some (.int .u64 (lim b 0)) := fun x => (HA1.out.later' x.below).cell (by omega)
  have m11 : ∀ x : Ext W0, x.w.cell? ⟨w.heap.size + 1, 1, none⟩ = some (.int .u64 (lim b 1)) := fun x => (HA1.out.later' x.below).cell (by omega)
  have m12 : ∀ x : Ext W0, x.w.cell? ⟨w.heap.size + 1, 2, none⟩ = some (.int .u64 (lim b 2)) := fun x => (HA1.out.later' x.below).cell (by omega)
  have m13 : ∀ x : Ext W0, x.w.cell? ⟨w.heap.size + 1, 3, none⟩ = some (.int .u64 (lim b 3)) := fun x => (HA1.out.later' x.below).cell (by omega)
  have r0 : ∀ x : Ext W0, x.w.cell? ⟨w.heap.size + 1 + 1, 0, none⟩ = some (.int .u64 0) := fun x => (HAR.out.later' x.below).cell (by omega)
  have g0 : ∀ x : Ext W0, x.w.frozen? ⟨w.heap.size + 1 + 1, 0, none⟩ = false := fun x => (HAR.out.later' x.below).frozen 0
  have r1 : ∀ x : Ext W0, x.w.cell? ⟨w.heap.size + 1 + 1, 1, none⟩ = some (.int .u64 0) := fun x => (HAR.out.later' x.below).cell (by omega)
  have g1 : ∀ x : Ext W0, x.w.frozen? ⟨w.heap.size + 1 + 1, 1, none⟩ = false := fun x => (HAR.out.later' x.below).frozen 1
  have r2 : ∀ x : Ext W0, x.w.cell? ⟨w.heap.size + 1 + 1, 2, none⟩ = some (.int .u64 0) := fun x => (HAR.out.later' x.below).cell (by omega)
  have g2 : ∀ x : Ext W0, x.w.frozen? ⟨w.heap.size + 1 + 1, 2, none⟩ = false := fun x => (HAR.out.later' x.below).frozen 2
  have r3 : ∀ x : Ext W0, x.w.cell? ⟨w.heap.size + 1 + 1, 3, none⟩ = some (.int .u64 0) := fun x => (HAR.out.later' x.below).cell (by omega)
  have g3 : ∀ x : Ext W0, x.w.frozen? ⟨w.heap.size + 1 + 1, 3, none⟩ = false := fun x => (HAR.out.later' x.below).frozen 3
  clear A0 A1 AR B0
  refine wp_region_mix (C := Grows W0) [some true, some true, some true, some true, some true, some true, some true, some true, none] hmx (by kernel_rfl) (by kernel_rfl) (grows_refl W0) ?_
  simp only [headOf, tailOf]
  repeat (go_big_quiet_step (first | (with_reducible exact Ret.at Z1 _) | (with_reducible exact Ret.at Z2 _) | (with_reducible exact Ret.at D1 _) | (with_reducible exact Ret.at N1 _) | (with_reducible exact Ret.at S1 _)))
  refine wpQuiet_nil ?_
  rintro _ ⟨x, rfl⟩
  have AF := (HAR.out.later' x.below).store (lim (v))
  have BF := HB.out.trans (x.below.mono HB.out.size)
  go_wp2
  rw [calmPost_normal]
  go_wp2
  refine bodyPost_ret (results_word rfl rfl AF) rfl ⟨rfl, ?_⟩
  exact (((BF.setCell (p := ⟨w.heap.size + 1 + 1, 0, none⟩) (by first | (simp; done) | (simp; omega)) _).setCell (p := ⟨w.heap.size + 1 + 1, 1, none⟩) (by first | (simp; done) | (simp; omega)) _).setCell (p := ⟨w.heap.size + 1 + 1, 2, none⟩) (by first | (simp; done) | (simp; omega)) _).setCell (p := ⟨w.heap.size + 1 + 1, 3, none⟩) (by first | (simp; done) | (simp; omega)) _
end Go.Proofs.Ytnlcllhjhbaigaa
