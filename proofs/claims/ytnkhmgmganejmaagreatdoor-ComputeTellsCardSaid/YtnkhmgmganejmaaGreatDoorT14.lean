/- Part. -/
import Derived.Test.YtnkhmgmganejmaaGreatDoorT13
import Derived.Test.YtnkhmgmganejmaaGreatDoorT06
import Derived.Test.YtnkhmgmganejmaaGreatDoorT12
import Derived.Test.YtnkhmgmganejmaaGreatDoorT07
set_option maxRecDepth 100000
set_option maxHeartbeats 16000000
open List (setIfInBounds_toArray set_cons_succ set_cons_zero)
namespace Go.Proofs.YtnkhmgmganejmaaGreatDoor
section
open Go Go.RowKit Go.Shelf
attribute [local go_sem] Oper.semAt_some Grows wide_fn
theorem divide8_calls (M n : Nat) (hM : M < 18446744073709551616 ^ 8) (hn : W256 n) : ∃ q : Nat → Int, ∀ w, Calls Tryz.prog 156 #[.agg #[.int .u64 (limN (M) 0 : Int), .int .u64 (limN (M) 1 : Int), .int .u64 (limN (M) 2 : Int), .int .u64 (limN (M) 3 : Int), .int .u64 (limN (M) 4 : Int), .int .u64 (limN (M) 5 : Int), .int .u64 (limN (M) 6 : Int), .int .u64 (limN (M) 7 : Int)], .agg #[.int .u64 (lim n 0), .int .u64 (lim n 1), .int .u64 (lim n 2), .int .u64 (lim n 3)]] w fun e w' => e = .returned (.tuple #[.agg #[.int .u64 (q 0), .int .u64 (q 1), .int .u64 (q 2), .int .u64 (q 3), .int .u64 (q 4), .int .u64 (q 5), .int .u64 (q 6), .int .u64 (q 7)], .agg #[.int .u64 (lim (if n = 0 then 0 else M % n) 0), .int .u64 (lim (if n = 0 then 0 else M % n) 1), .int .u64 (lim (if n = 0 then 0 else M % n) 2), .int .u64 (lim (if n = 0 then 0 else M % n) 3)]]) ∧ Below w.heap.size w w' := by
 by_cases h0 : n = 0
 ·subst h0
  have ez : ∀ j, lim 0 j = 0 := fun j => by unfold lim; split <;> simp
  refine ⟨fun _ => 0, fun w => ?_⟩
  have := divide8_zero (fun j => (limN M j : Int)) w
  simpa only [ez, if_true] using this
 ·refine ⟨fun j => (limN (M / n) j : Int), fun w => ?_⟩
  have := divide8_any M n (fun j => (limN M j : Int)) (fun _ _ => rfl) hM hn h0 w
  unfold wv at this
  simpa only [if_neg h0] using this
theorem Limbs.new4 (W : World) (t : TypeId) : Limbs (W.alloc (.cells #[.int .u64 0, .int .u64 0, .int .u64 0, .int .u64 0] t)) W.heap.size t 4 (fun _ => 0) := ⟨_, World.alloc_heap_new W _, rfl, fun j hj => by
 rcases (show j = 0 ∨ j = 1 ∨ j = 2 ∨ j = 3 by omega) with rfl | rfl | rfl | rfl <;> rfl⟩
theorem Limbs.new8 (W : World) (t : TypeId) : Limbs (W.alloc (.cells #[.int .u64 0, .int .u64 0, .int .u64 0, .int .u64 0, .int .u64 0, .int .u64 0, .int .u64 0, .int .u64 0] t)) W.heap.size t 8 (fun _ => 0) := ⟨_, World.alloc_heap_new W _, rfl, fun j hj => by
 rcases (show j = 0 ∨ j = 1 ∨ j = 2 ∨ j = 3 ∨ j = 4 ∨ j = 5 ∨ j = 6 ∨ j = 7 by omega) with rfl | rfl | rfl | rfl | rfl | rfl | rfl | rfl <;> rfl⟩
theorem Limbs.ne_of_size {W : World} {B B' n n' : Nat} {t t' : TypeId} {m m' : Nat → Int} (h : Limbs W B t n m) (h' : Limbs W B' t' n' m') (hn : n ≠ n') : B ≠ B' := by
 rintro rfl
 obtain ⟨cur, h1, h2, _⟩ := h
 obtain ⟨cur', h1', h2', _⟩ := h'
 rw [h1] at h1'
 injection h1' with e
 injection e with e
 exact hn (by rw [← h2, ← h2', e])
theorem addmod_ret (a b n : Nat) (ha : W256 a) (hb : W256 b) (hn : W256 n) : Ret Tryz.prog 130 #[wv a, wv b, wv n] (wv (if n = 0 then 0 else (a + b) % n)) := by
 intro w
 have hM : a + b < 18446744073709551616 ^ 8 := by unfold W256 at ha hb; omega
 obtain ⟨q, DD⟩ := divide8_calls (a + b) n hM hn
 have SS := sum_any a b ha hb
 generalize (if n = 0 then 0 else (a + b) % n) = R at DD ⊢
 clear ha hb hn hM
 unfold wv at SS ⊢
 go_enter Tryz.func130, Tryz.ntmps130
 have A0 := ((Arr4.mk4' w 24 (lim a)).alloc (.cells #[.int .u64 (lim b 0), .int .u64 (lim b 1), .int .u64 (lim b 2), .int .u64 (lim b 3)] 24)).alloc (.cells #[.int .u64 (lim n 0), .int .u64 (lim n 1), .int .u64 (lim n 2), .int .u64 (lim n 3)] 24) |>.alloc (.cells #[.int .u64 0, .int .u64 0, .int .u64 0, .int .u64 0] 24)
 have A1 := ((Arr4.mk4' (w.alloc (.cells #[.int .u64 (lim a 0), .int .u64 (lim a 1), .int .u64 (lim a 2), .int .u64 (lim a 3)] 24)) 24 (lim b)).alloc (.cells #[.int .u64 (lim n 0), .int .u64 (lim n 1), .int .u64 (lim n 2), .int .u64 (lim n 3)] 24)).alloc (.cells #[.int .u64 0, .int .u64 0, .int .u64 0, .int .u64 0] 24)
 have A2 := (Arr4.mk4' ((w.alloc (.cells #[.int .u64 (lim a 0), .int .u64 (lim a 1), .int .u64 (lim a 2), .int .u64 (lim a 3)] 24)).alloc (.cells #[.int .u64 (lim b 0), .int .u64 (lim b 1), .int .u64 (lim b 2), .int .u64 (lim b 3)] 24)) 24 (lim n)).alloc (.cells #[.int .u64 0, .int .u64 0, .int .u64 0, .int .u64 0] 24)
 have A3 := Arr4.mk0' (((w.alloc (.cells #[.int .u64 (lim a 0), .int .u64 (lim a 1), .int .u64 (lim a 2), .int .u64 (lim a 3)] 24)).alloc (.cells #[.int .u64 (lim b 0), .int .u64 (lim b 1), .int .u64 (lim b 2), .int .u64 (lim b 3)] 24)).alloc (.cells #[.int .u64 (lim n 0), .int .u64 (lim n 1), .int .u64 (lim n 2), .int .u64 (lim n 3)] 24)) 24
 have B0 := ((((Below.refl _ w).alloc (Nat.le_refl _) (.cells #[.int .u64 (lim a 0), .int .u64 (lim a 1), .int .u64 (lim a 2), .int .u64 (lim a 3)] 24)).alloc (by simp) (.cells #[.int .u64 (lim b 0), .int .u64 (lim b 1), .int .u64 (lim b 2), .int .u64 (lim b 3)] 24)).alloc (by simp; omega) (.cells #[.int .u64 (lim n 0), .int .u64 (lim n 1), .int .u64 (lim n 2), .int .u64 (lim n 3)] 24)).alloc (by simp; omega) (.cells #[.int .u64 0, .int .u64 0, .int .u64 0, .int .u64 0] 24)
 simp only [World.size_alloc] at A1 A2 A3
 go_wp2_with fail
 obtain ⟨W0, hW0⟩ : ∃ W0, ((((w.alloc (.cells #[.int .u64 (lim a 0), .int .u64 (lim a 1), .int .u64 (lim a 2), .int .u64 (lim a 3)] 24)).alloc (.cells #[.int .u64 (lim b 0), .int .u64 (lim b 1), .int .u64 (lim b 2), .int .u64 (lim b 3)] 24)).alloc (.cells #[.int .u64 (lim n 0), .int .u64 (lim n 1), .int .u64 (lim n 2), .int .u64 (lim n 3)] 24)).alloc (.cells #[.int .u64 0, .int .u64 0, .int .u64 0, .int .u64 0] 24)) = W0 := ⟨_, rfl⟩
 have hz0 : W0.heap.size = w.heap.size + 1 + 1 + 1 + 1 := by rw [← hW0]; simp
 rw [hW0] at A0 A1 A2 A3 B0 ⊢
 clear hW0
 refine wp_region_ghost [some (.agg #[.int .u64 (lim a 0), .int .u64 (lim a 1), .int .u64 (lim a 2), .int .u64 (lim a 3)]), some (.agg #[.int .u64 (lim b 0), .int .u64 (lim b 1), .int .u64 (lim b 2), .int .u64 (lim b 3)]), some (.agg #[.int .u64 (limN (a + b) 0 : Int), .int .u64 (limN (a + b) 1 : Int), .int .u64 (limN (a + b) 2 : Int), .int .u64 (limN (a + b) 3 : Int), .int .u64 (limN (a + b) 4 : Int), .int .u64 (limN (a + b) 5 : Int), .int .u64 (limN (a + b) 6 : Int), .int .u64 (limN (a + b) 7 : Int)]), some (.agg #[.int .u64 (lim n 0), .int .u64 (lim n 1), .int .u64 (lim n 2), .int .u64 (lim n 3)]), some (.tuple #[.agg #[.int .u64 (q 0), .int .u64 (q 1), .int .u64 (q 2), .int .u64 (q 3), .int .u64 (q 4), .int .u64 (q 5), .int .u64 (q 6), .int .u64 (q 7)], .agg #[.int .u64 (lim R 0), .int .u64 (lim R 1), .int .u64 (lim R 2), .int .u64 (lim R 3)]]), some (.tuple #[.agg #[.int .u64 (q 0), .int .u64 (q 1), .int .u64 (q 2), .int .u64 (q 3), .int .u64 (q 4), .int .u64 (q 5), .int .u64 (q 6), .int .u64 (q 7)], .agg #[.int .u64 (lim R 0), .int .u64 (lim R 1), .int .u64 (lim R 2), .int .u64 (lim R 3)]]), some (.agg #[.int .u64 (q 0), .int .u64 (q 1), .int .u64 (q 2), .int .u64 (q 3), .int .u64 (q 4), .int .u64 (q 5), .int .u64 (q 6), .int .u64 (q 7)]), some (.agg #[.int .u64 (lim R 0), .int .u64 (lim R 1), .int .u64 (lim R 2), .int .u64 (lim R 3)]), none, none, none, none] [[], [], [0, 1], [], [0, 1, 2, 3], [0, 1, 2, 3, 4], [0, 1, 2, 3, 4, 5], [0, 1, 2, 3, 4, 5], [], [], [0, 1, 2, 3, 4, 5, 6, 8, 9], [0, 1, 2, 3, 4, 5, 6, 7, 8, 9, 10]]
  (fun f g w' => Below W0.heap.size W0 w' ∧ (f 8 = true → ∃ B m, g 8 = .pointer (some ⟨B, 0, none⟩) ∧ W0.heap.size ≤ B ∧ Limbs w' B 143 8 m) ∧ (f 9 = true → ∃ B m, g 9 = .pointer (some ⟨B, 0, none⟩) ∧ W0.heap.size ≤ B ∧ Limbs w' B 24 4 m ∧ (f 11 = true → ∀ j, j < 4 → m j = lim R j)))
  (by kernel_rfl) (by kernel_rfl) (by kernel_rfl) ?_ ?_ ?_ ?_
 ·rintro f g w1 w2 ⟨h1, h2, h3⟩ hb
  exact ⟨h1.trans (hb.mono h1.size), fun h => let ⟨B, m, e, hB, hL⟩ := h2 h; ⟨B, m, e, hB, hL.later hb⟩, fun h => let ⟨B, m, e, hB, hL, hR⟩ := h3 h; ⟨B, m, e, hB, hL.later hb, hR⟩⟩
 ·intro f f' g g' w1 h
  have h8 := h 8 rfl
  have h9 := h 9 rfl
  have h11 := h 11 rfl
  simp only [h8.1, h8.2, h9.1, h9.2, h11.1]
  exact id
 ·exact ⟨(Below.refl _ _).drew, by simp, by simp⟩
 ·rintro f g w1 ⟨h1, h2, h3⟩ Dn
  have A0 := A0.below h1 (by rw [hz0]; omega)
  have A1 := A1.below h1 (by rw [hz0]; omega)
  have A2 := A2.below h1 (by rw [hz0]; omega)
  have a0 := A0.cell (j := 0) (by omega)
  have a1 := A0.cell (j := 1) (by omega)
  have a2 := A0.cell (j := 2) (by omega)
  have a3 := A0.cell (j := 3) (by omega)
  have b0 := A1.cell (j := 0) (by omega)
  have b1 := A1.cell (j := 1) (by omega)
  have b2 := A1.cell (j := 2) (by omega)
  have b3 := A1.cell (j := 3) (by omega)
  have n0 := A2.cell (j := 0) (by omega)
  have n1 := A2.cell (j := 1) (by omega)
  have n2 := A2.cell (j := 2) (by omega)
  have n3 := A2.cell (j := 3) (by omega)
  have put := True.intro
  refine GW.known _ rfl (fun hd hf => ?_) ?_
  ·go_wp2
   exact ⟨rfl, rfl, Below.refl _ _⟩
  simp only [Act.put, setIfInBounds_toArray, set_cons_succ, set_cons_zero]
  refine GW.known _ rfl (fun hd hf => ?_) ?_
  ·go_wp2
   exact ⟨rfl, rfl, Below.refl _ _⟩
  simp only [Act.put, setIfInBounds_toArray, set_cons_succ, set_cons_zero]
  refine GW.known _ rfl (fun hd hf => ?_) ?_
  ·go_wp2_with fail
   refine (SS _).mono ?_
   rintro e w2 ⟨rfl, hb⟩
   go_wp2
   exact ⟨rfl, rfl, hb⟩
  simp only [Act.put, setIfInBounds_toArray, set_cons_succ, set_cons_zero]
  refine GW.known _ rfl (fun hd hf => ?_) ?_
  ·go_wp2
   exact ⟨rfl, rfl, Below.refl _ _⟩
  simp only [Act.put, setIfInBounds_toArray, set_cons_succ, set_cons_zero]
  refine GW.known _ rfl (fun hd hf => ?_) ?_
  ·go_wp2_with fail
   refine (DD _).mono ?_
   rintro e w2 ⟨rfl, hb⟩
   go_wp2
   exact ⟨rfl, rfl, hb⟩
  simp only [Act.put, setIfInBounds_toArray, set_cons_succ, set_cons_zero]
  refine GW.known _ rfl (fun hd hf => ?_) ?_
  ·go_wp2
   exact ⟨rfl, rfl, Below.refl _ _⟩
  simp only [Act.put, setIfInBounds_toArray, set_cons_succ, set_cons_zero]
  refine GW.known _ rfl (fun hd hf => ?_) ?_
  ·go_wp2
   exact ⟨rfl, rfl, Below.refl _ _⟩
  simp only [Act.put, setIfInBounds_toArray, set_cons_succ, set_cons_zero]
  refine GW.known _ rfl (fun hd hf => ?_) ?_
  ·go_wp2
   exact ⟨rfl, rfl, Below.refl _ _⟩
  simp only [Act.put]
  refine GW.open rfl (fun hd hf => ?_) ?_
  ·go_wp2
   exact ⟨rfl, h1.alloc h1.size _, fun _ => ⟨_, fun _ => 0, rfl, h1.size, Limbs.new8 _ _⟩, fun h => let ⟨B, m, e, hB, hL, hR⟩ := h3 h; ⟨B, m, e, hB, hL.alloc _, hR⟩⟩
  simp only [Act.put]
  refine GW.open rfl (fun hd hf => ?_) ?_
  ·go_wp2
   have f11 : f 11 = true → False := fun h => by
    have := Dn 11 h 9 (by decide)
    rw [hf] at this; cases this
   exact ⟨rfl, h1.alloc h1.size _, fun h => let ⟨B, m, e, hB, hL⟩ := h2 h; ⟨B, m, e, hB, hL.alloc _⟩, fun _ => ⟨_, fun _ => 0, rfl, h1.size, Limbs.new4 _ _, fun h => (f11 h).elim⟩⟩
  simp only [Act.put]
  refine GW.open rfl (fun hd hf => ?_) ?_
  ·obtain ⟨B8, m8, e8, hB8, L8⟩ := h2 (hd 8 (by decide))
   obtain ⟨B9, m9, e9, hB9, L9, R9⟩ := h3 (hd 9 (by decide))
   have f11 : f 11 = true → False := fun h => by
    have := Dn 11 h 10 (by decide)
    rw [hf] at this; cases this
   have hne := L9.ne_of_size L8 (by decide)
   rw [e8]
   have c0 := L8.cell (j := 0) (by omega)
   have z0 := L8.frozen 0
   have c1 := L8.cell (j := 1) (by omega)
   have z1 := L8.frozen 1
   have c2 := L8.cell (j := 2) (by omega)
   have z2 := L8.frozen 2
   have c3 := L8.cell (j := 3) (by omega)
   have z3 := L8.frozen 3
   have c4 := L8.cell (j := 4) (by omega)
   have z4 := L8.frozen 4
   have c5 := L8.cell (j := 5) (by omega)
   have z5 := L8.frozen 5
   have c6 := L8.cell (j := 6) (by omega)
   have z6 := L8.frozen 6
   have c7 := L8.cell (j := 7) (by omega)
   have z7 := L8.frozen 7
   go_wp2
   refine ⟨rfl, ((((((((h1.setCell (p := ⟨B8, 0, none⟩) hB8 (.int .u64 (q 0))).setCell (p := ⟨B8, 1, none⟩) hB8 (.int .u64 (q 1))).setCell (p := ⟨B8, 2, none⟩) hB8 (.int .u64 (q 2))).setCell (p := ⟨B8, 3, none⟩) hB8 (.int .u64 (q 3))).setCell (p := ⟨B8, 4, none⟩) hB8 (.int .u64 (q 4))).setCell (p := ⟨B8, 5, none⟩) hB8 (.int .u64 (q 5))).setCell (p := ⟨B8, 6, none⟩) hB8 (.int .u64 (q 6))).setCell (p := ⟨B8, 7, none⟩) hB8 (.int .u64 (q 7))), fun _ => ⟨B8, _, e8, hB8, ((((((((L8.set (k := 0) (by omega) (q 0)).set (k := 1) (by omega) (q 1)).set (k := 2) (by omega) (q 2)).set (k := 3) (by omega) (q 3)).set (k := 4) (by omega) (q 4)).set (k := 5) (by omega) (q 5)).set (k := 6) (by omega) (q 6)).set (k := 7) (by omega) (q 7))⟩, fun _ => ⟨B9, m9, e9, hB9, ((((((((L9.other (p := ⟨B8, 0, none⟩) hne (.int .u64 (q 0))).other (p := ⟨B8, 1, none⟩) hne (.int .u64 (q 1))).other (p := ⟨B8, 2, none⟩) hne (.int .u64 (q 2))).other (p := ⟨B8, 3, none⟩) hne (.int .u64 (q 3))).other (p := ⟨B8, 4, none⟩) hne (.int .u64 (q 4))).other (p := ⟨B8, 5, none⟩) hne (.int .u64 (q 5))).other (p := ⟨B8, 6, none⟩) hne (.int .u64 (q 6))).other (p := ⟨B8, 7, none⟩) hne (.int .u64 (q 7))), fun h => (f11 h).elim⟩⟩
  simp only [Act.put]
  refine GW.open rfl (fun hd hf => ?_) ?_
  ·obtain ⟨B8, m8, e8, hB8, L8⟩ := h2 (hd 8 (by decide))
   obtain ⟨B9, m9, e9, hB9, L9, R9⟩ := h3 (hd 9 (by decide))
   have hne := (L9.ne_of_size L8 (by decide)).symm
   rw [e9]
   have c0 := L9.cell (j := 0) (by omega)
   have z0 := L9.frozen 0
   have c1 := L9.cell (j := 1) (by omega)
   have z1 := L9.frozen 1
   have c2 := L9.cell (j := 2) (by omega)
   have z2 := L9.frozen 2
   have c3 := L9.cell (j := 3) (by omega)
   have z3 := L9.frozen 3
   go_wp2
   refine ⟨rfl, ((((h1.setCell (p := ⟨B9, 0, none⟩) hB9 (.int .u64 (lim R 0))).setCell (p := ⟨B9, 1, none⟩) hB9 (.int .u64 (lim R 1))).setCell (p := ⟨B9, 2, none⟩) hB9 (.int .u64 (lim R 2))).setCell (p := ⟨B9, 3, none⟩) hB9 (.int .u64 (lim R 3))), fun _ => ⟨B8, m8, e8, hB8, ((((L8.other (p := ⟨B9, 0, none⟩) hne (.int .u64 (lim R 0))).other (p := ⟨B9, 1, none⟩) hne (.int .u64 (lim R 1))).other (p := ⟨B9, 2, none⟩) hne (.int .u64 (lim R 2))).other (p := ⟨B9, 3, none⟩) hne (.int .u64 (lim R 3)))⟩, fun _ => ⟨B9, _, e9, hB9, ((((L9.set (k := 0) (by omega) (lim R 0)).set (k := 1) (by omega) (lim R 1)).set (k := 2) (by omega) (lim R 2)).set (k := 3) (by omega) (lim R 3)), fun _ j hj => ?_⟩⟩
   rcases (show j = 0 ∨ j = 1 ∨ j = 2 ∨ j = 3 by omega) with rfl | rfl | rfl | rfl <;> simp
  simp only [Act.put]
  refine GW.nil (fun hall => ?_)
  obtain ⟨B9, m9, e9, hB9, L9, R9⟩ := h3 (hall 9 (by omega))
  have L9 := (L9.congr (R9 (hall 11 (by omega)))).to4
  rw [e9]
  have A3 := A3.below h1 (by rw [hz0]; omega)
  have BB := B0.trans (h1.mono (by rw [hz0]; omega))
  clear h2 h3 Dn A0 A1 A2 a0 a1 a2 a3 b0 b1 b2 b3 n0 n1 n2 n3 DD SS hall R9 put
  have c0 := L9.cell (j := 0) (by omega)
  have d0 := A3.cell (j := 0) (by omega)
  have z0 := A3.frozen 0
  have c1 := L9.cell (j := 1) (by omega)
  have d1 := A3.cell (j := 1) (by omega)
  have z1 := A3.frozen 1
  have c2 := L9.cell (j := 2) (by omega)
  have d2 := A3.cell (j := 2) (by omega)
  have z2 := A3.frozen 2
  have c3 := L9.cell (j := 3) (by omega)
  have d3 := A3.cell (j := 3) (by omega)
  have z3 := A3.frozen 3
  have HA := Lib.hid A3
  clear A3 L9
  go_wp2
  refine bodyPost_ret (results_word rfl rfl (HA.out.store (lim R))) rfl ⟨rfl, ?_⟩
  (repeat (first | exact BB | refine Below.setCell ?_ (by first | omega | (simp; done) | (simp; omega)) _ | refine Below.drew ?_))
theorem mulmod_ret (a b n : Nat) (ha : W256 a) (hb : W256 b) (hn : W256 n) : Ret Tryz.prog 131 #[wv a, wv b, wv n] (wv (if n = 0 then 0 else (a * b) % n)) := by
 intro w
 have hM : a * b < 18446744073709551616 ^ 8 := by unfold W256 at ha hb; exact Nat.lt_of_lt_of_le (Nat.mul_lt_mul'' ha hb) (by decide)
 obtain ⟨q, DD⟩ := divide8_calls (a * b) n hM hn
 have SS := product_any a b ha hb
 generalize (if n = 0 then 0 else (a * b) % n) = R at DD ⊢
 clear ha hb hn hM
 unfold wv at SS ⊢
 go_enter Tryz.func131, Tryz.ntmps131
 have A0 := ((Arr4.mk4' w 24 (lim a)).alloc (.cells #[.int .u64 (lim b 0), .int .u64 (lim b 1), .int .u64 (lim b 2), .int .u64 (lim b 3)] 24)).alloc (.cells #[.int .u64 (lim n 0), .int .u64 (lim n 1), .int .u64 (lim n 2), .int .u64 (lim n 3)] 24) |>.alloc (.cells #[.int .u64 0, .int .u64 0, .int .u64 0, .int .u64 0] 24)
 have A1 := ((Arr4.mk4' (w.alloc (.cells #[.int .u64 (lim a 0), .int .u64 (lim a 1), .int .u64 (lim a 2), .int .u64 (lim a 3)] 24)) 24 (lim b)).alloc (.cells #[.int .u64 (lim n 0), .int .u64 (lim n 1), .int .u64 (lim n 2), .int .u64 (lim n 3)] 24)).alloc (.cells #[.int .u64 0, .int .u64 0, .int .u64 0, .int .u64 0] 24)
 have A2 := (Arr4.mk4' ((w.alloc (.cells #[.int .u64 (lim a 0), .int .u64 (lim a 1), .int .u64 (lim a 2), .int .u64 (lim a 3)] 24)).alloc (.cells #[.int .u64 (lim b 0), .int .u64 (lim b 1), .int .u64 (lim b 2), .int .u64 (lim b 3)] 24)) 24 (lim n)).alloc (.cells #[.int .u64 0, .int .u64 0, .int .u64 0, .int .u64 0] 24)
 have A3 := Arr4.mk0' (((w.alloc (.cells #[.int .u64 (lim a 0), .int .u64 (lim a 1), .int .u64 (lim a 2), .int .u64 (lim a 3)] 24)).alloc (.cells #[.int .u64 (lim b 0), .int .u64 (lim b 1), .int .u64 (lim b 2), .int .u64 (lim b 3)] 24)).alloc (.cells #[.int .u64 (lim n 0), .int .u64 (lim n 1), .int .u64 (lim n 2), .int .u64 (lim n 3)] 24)) 24
 have B0 := ((((Below.refl _ w).alloc (Nat.le_refl _) (.cells #[.int .u64 (lim a 0), .int .u64 (lim a 1), .int .u64 (lim a 2), .int .u64 (lim a 3)] 24)).alloc (by simp) (.cells #[.int .u64 (lim b 0), .int .u64 (lim b 1), .int .u64 (lim b 2), .int .u64 (lim b 3)] 24)).alloc (by simp; omega) (.cells #[.int .u64 (lim n 0), .int .u64 (lim n 1), .int .u64 (lim n 2), .int .u64 (lim n 3)] 24)).alloc (by simp; omega) (.cells #[.int .u64 0, .int .u64 0, .int .u64 0, .int .u64 0] 24)
 simp only [World.size_alloc] at A1 A2 A3
 go_wp2_with fail
 obtain ⟨W0, hW0⟩ : ∃ W0, ((((w.alloc (.cells #[.int .u64 (lim a 0), .int .u64 (lim a 1), .int .u64 (lim a 2), .int .u64 (lim a 3)] 24)).alloc (.cells #[.int .u64 (lim b 0), .int .u64 (lim b 1), .int .u64 (lim b 2), .int .u64 (lim b 3)] 24)).alloc (.cells #[.int .u64 (lim n 0), .int .u64 (lim n 1), .int .u64 (lim n 2), .int .u64 (lim n 3)] 24)).alloc (.cells #[.int .u64 0, .int .u64 0, .int .u64 0, .int .u64 0] 24)) = W0 := ⟨_, rfl⟩
 have hz0 : W0.heap.size = w.heap.size + 1 + 1 + 1 + 1 := by rw [← hW0]; simp
 rw [hW0] at A0 A1 A2 A3 B0 ⊢
 clear hW0
 refine wp_region_ghost [some (.agg #[.int .u64 (lim a 0), .int .u64 (lim a 1), .int .u64 (lim a 2), .int .u64 (lim a 3)]), some (.agg #[.int .u64 (lim b 0), .int .u64 (lim b 1), .int .u64 (lim b 2), .int .u64 (lim b 3)]), some (.agg #[.int .u64 (limN (a * b) 0 : Int), .int .u64 (limN (a * b) 1 : Int), .int .u64 (limN (a * b) 2 : Int), .int .u64 (limN (a * b) 3 : Int), .int .u64 (limN (a * b) 4 : Int), .int .u64 (limN (a * b) 5 : Int), .int .u64 (limN (a * b) 6 : Int), .int .u64 (limN (a * b) 7 : Int)]), some (.agg #[.int .u64 (lim n 0), .int .u64 (lim n 1), .int .u64 (lim n 2), .int .u64 (lim n 3)]), some (.tuple #[.agg #[.int .u64 (q 0), .int .u64 (q 1), .int .u64 (q 2), .int .u64 (q 3), .int .u64 (q 4), .int .u64 (q 5), .int .u64 (q 6), .int .u64 (q 7)], .agg #[.int .u64 (lim R 0), .int .u64 (lim R 1), .int .u64 (lim R 2), .int .u64 (lim R 3)]]), some (.tuple #[.agg #[.int .u64 (q 0), .int .u64 (q 1), .int .u64 (q 2), .int .u64 (q 3), .int .u64 (q 4), .int .u64 (q 5), .int .u64 (q 6), .int .u64 (q 7)], .agg #[.int .u64 (lim R 0), .int .u64 (lim R 1), .int .u64 (lim R 2), .int .u64 (lim R 3)]]), some (.agg #[.int .u64 (q 0), .int .u64 (q 1), .int .u64 (q 2), .int .u64 (q 3), .int .u64 (q 4), .int .u64 (q 5), .int .u64 (q 6), .int .u64 (q 7)]), some (.agg #[.int .u64 (lim R 0), .int .u64 (lim R 1), .int .u64 (lim R 2), .int .u64 (lim R 3)]), none, none, none, none] [[], [], [0, 1], [], [0, 1, 2, 3], [0, 1, 2, 3, 4], [0, 1, 2, 3, 4, 5], [0, 1, 2, 3, 4, 5], [], [], [0, 1, 2, 3, 4, 5, 6, 8, 9], [0, 1, 2, 3, 4, 5, 6, 7, 8, 9, 10]]
  (fun f g w' => Below W0.heap.size W0 w' ∧ (f 8 = true → ∃ B m, g 8 = .pointer (some ⟨B, 0, none⟩) ∧ W0.heap.size ≤ B ∧ Limbs w' B 143 8 m) ∧ (f 9 = true → ∃ B m, g 9 = .pointer (some ⟨B, 0, none⟩) ∧ W0.heap.size ≤ B ∧ Limbs w' B 24 4 m ∧ (f 11 = true → ∀ j, j < 4 → m j = lim R j)))
  (by kernel_rfl) (by kernel_rfl) (by kernel_rfl) ?_ ?_ ?_ ?_
 ·rintro f g w1 w2 ⟨h1, h2, h3⟩ hb
  exact ⟨h1.trans (hb.mono h1.size), fun h => let ⟨B, m, e, hB, hL⟩ := h2 h; ⟨B, m, e, hB, hL.later hb⟩, fun h => let ⟨B, m, e, hB, hL, hR⟩ := h3 h; ⟨B, m, e, hB, hL.later hb, hR⟩⟩
 ·intro f f' g g' w1 h
  have h8 := h 8 rfl
  have h9 := h 9 rfl
  have h11 := h 11 rfl
  simp only [h8.1, h8.2, h9.1, h9.2, h11.1]
  exact id
 ·exact ⟨(Below.refl _ _).drew, by simp, by simp⟩
 ·rintro f g w1 ⟨h1, h2, h3⟩ Dn
  have A0 := A0.below h1 (by rw [hz0]; omega)
  have A1 := A1.below h1 (by rw [hz0]; omega)
  have A2 := A2.below h1 (by rw [hz0]; omega)
  have a0 := A0.cell (j := 0) (by omega)
  have a1 := A0.cell (j := 1) (by omega)
  have a2 := A0.cell (j := 2) (by omega)
  have a3 := A0.cell (j := 3) (by omega)
  have b0 := A1.cell (j := 0) (by omega)
  have b1 := A1.cell (j := 1) (by omega)
  have b2 := A1.cell (j := 2) (by omega)
  have b3 := A1.cell (j := 3) (by omega)
  have n0 := A2.cell (j := 0) (by omega)
  have n1 := A2.cell (j := 1) (by omega)
  have n2 := A2.cell (j := 2) (by omega)
  have n3 := A2.cell (j := 3) (by omega)
  have put := True.intro
  refine GW.known _ rfl (fun hd hf => ?_) ?_
  ·go_wp2
   exact ⟨rfl, rfl, Below.refl _ _⟩
  simp only [Act.put, setIfInBounds_toArray, set_cons_succ, set_cons_zero]
  refine GW.known _ rfl (fun hd hf => ?_) ?_
  ·go_wp2
   exact ⟨rfl, rfl, Below.refl _ _⟩
  simp only [Act.put, setIfInBounds_toArray, set_cons_succ, set_cons_zero]
  refine GW.known _ rfl (fun hd hf => ?_) ?_
  ·go_wp2_with fail
   refine (SS _).mono ?_
   rintro e w2 ⟨rfl, hb⟩
   go_wp2
   exact ⟨rfl, rfl, hb⟩
  simp only [Act.put, setIfInBounds_toArray, set_cons_succ, set_cons_zero]
  refine GW.known _ rfl (fun hd hf => ?_) ?_
  ·go_wp2
   exact ⟨rfl, rfl, Below.refl _ _⟩
  simp only [Act.put, setIfInBounds_toArray, set_cons_succ, set_cons_zero]
  refine GW.known _ rfl (fun hd hf => ?_) ?_
  ·go_wp2_with fail
   refine (DD _).mono ?_
   rintro e w2 ⟨rfl, hb⟩
   go_wp2
   exact ⟨rfl, rfl, hb⟩
  simp only [Act.put, setIfInBounds_toArray, set_cons_succ, set_cons_zero]
  refine GW.known _ rfl (fun hd hf => ?_) ?_
  ·go_wp2
   exact ⟨rfl, rfl, Below.refl _ _⟩
  simp only [Act.put, setIfInBounds_toArray, set_cons_succ, set_cons_zero]
  refine GW.known _ rfl (fun hd hf => ?_) ?_
  ·go_wp2
   exact ⟨rfl, rfl, Below.refl _ _⟩
  simp only [Act.put, setIfInBounds_toArray, set_cons_succ, set_cons_zero]
  refine GW.known _ rfl (fun hd hf => ?_) ?_
  ·go_wp2
   exact ⟨rfl, rfl, Below.refl _ _⟩
  simp only [Act.put]
  refine GW.open rfl (fun hd hf => ?_) ?_
  ·go_wp2
   exact ⟨rfl, h1.alloc h1.size _, fun _ => ⟨_, fun _ => 0, rfl, h1.size, Limbs.new8 _ _⟩, fun h => let ⟨B, m, e, hB, hL, hR⟩ := h3 h; ⟨B, m, e, hB, hL.alloc _, hR⟩⟩
  simp only [Act.put]
  refine GW.open rfl (fun hd hf => ?_) ?_
  ·go_wp2
   have f11 : f 11 = true → False := fun h => by
    have := Dn 11 h 9 (by decide)
    rw [hf] at this; cases this
   exact ⟨rfl, h1.alloc h1.size _, fun h => let ⟨B, m, e, hB, hL⟩ := h2 h; ⟨B, m, e, hB, hL.alloc _⟩, fun _ => ⟨_, fun _ => 0, rfl, h1.size, Limbs.new4 _ _, fun h => (f11 h).elim⟩⟩
  simp only [Act.put]
  refine GW.open rfl (fun hd hf => ?_) ?_
  ·obtain ⟨B8, m8, e8, hB8, L8⟩ := h2 (hd 8 (by decide))
   obtain ⟨B9, m9, e9, hB9, L9, R9⟩ := h3 (hd 9 (by decide))
   have f11 : f 11 = true → False := fun h => by
    have := Dn 11 h 10 (by decide)
    rw [hf] at this; cases this
   have hne := L9.ne_of_size L8 (by decide)
   rw [e8]
   have c0 := L8.cell (j := 0) (by omega)
   have z0 := L8.frozen 0
   have c1 := L8.cell (j := 1) (by omega)
   have z1 := L8.frozen 1
   have c2 := L8.cell (j := 2) (by omega)
   have z2 := L8.frozen 2
   have c3 := L8.cell (j := 3) (by omega)
   have z3 := L8.frozen 3
   have c4 := L8.cell (j := 4) (by omega)
   have z4 := L8.frozen 4
   have c5 := L8.cell (j := 5) (by omega)
   have z5 := L8.frozen 5
   have c6 := L8.cell (j := 6) (by omega)
   have z6 := L8.frozen 6
   have c7 := L8.cell (j := 7) (by omega)
   have z7 := L8.frozen 7
   go_wp2
   refine ⟨rfl, ((((((((h1.setCell (p := ⟨B8, 0, none⟩) hB8 (.int .u64 (q 0))).setCell (p := ⟨B8, 1, none⟩) hB8 (.int .u64 (q 1))).setCell (p := ⟨B8, 2, none⟩) hB8 (.int .u64 (q 2))).setCell (p := ⟨B8, 3, none⟩) hB8 (.int .u64 (q 3))).setCell (p := ⟨B8, 4, none⟩) hB8 (.int .u64 (q 4))).setCell (p := ⟨B8, 5, none⟩) hB8 (.int .u64 (q 5))).setCell (p := ⟨B8, 6, none⟩) hB8 (.int .u64 (q 6))).setCell (p := ⟨B8, 7, none⟩) hB8 (.int .u64 (q 7))), fun _ => ⟨B8, _, e8, hB8, ((((((((L8.set (k := 0) (by omega) (q 0)).set (k := 1) (by omega) (q 1)).set (k := 2) (by omega) (q 2)).set (k := 3) (by omega) (q 3)).set (k := 4) (by omega) (q 4)).set (k := 5) (by omega) (q 5)).set (k := 6) (by omega) (q 6)).set (k := 7) (by omega) (q 7))⟩, fun _ => ⟨B9, m9, e9, hB9, ((((((((L9.other (p := ⟨B8, 0, none⟩) hne (.int .u64 (q 0))).other (p := ⟨B8, 1, none⟩) hne (.int .u64 (q 1))).other (p := ⟨B8, 2, none⟩) hne (.int .u64 (q 2))).other (p := ⟨B8, 3, none⟩) hne (.int .u64 (q 3))).other (p := ⟨B8, 4, none⟩) hne (.int .u64 (q 4))).other (p := ⟨B8, 5, none⟩) hne (.int .u64 (q 5))).other (p := ⟨B8, 6, none⟩) hne (.int .u64 (q 6))).other (p := ⟨B8, 7, none⟩) hne (.int .u64 (q 7))), fun h => (f11 h).elim⟩⟩
  simp only [Act.put]
  refine GW.open rfl (fun hd hf => ?_) ?_
  ·obtain ⟨B8, m8, e8, hB8, L8⟩ := h2 (hd 8 (by decide))
   obtain ⟨B9, m9, e9, hB9, L9, R9⟩ := h3 (hd 9 (by decide))
   have hne := (L9.ne_of_size L8 (by decide)).symm
   rw [e9]
   have c0 := L9.cell (j := 0) (by omega)
   have z0 := L9.frozen 0
   have c1 := L9.cell (j := 1) (by omega)
   have z1 := L9.frozen 1
   have c2 := L9.cell (j := 2) (by omega)
   have z2 := L9.frozen 2
   have c3 := L9.cell (j := 3) (by omega)
   have z3 := L9.frozen 3
   go_wp2
   refine ⟨rfl, ((((h1.setCell (p := ⟨B9, 0, none⟩) hB9 (.int .u64 (lim R 0))).setCell (p := ⟨B9, 1, none⟩) hB9 (.int .u64 (lim R 1))).setCell (p := ⟨B9, 2, none⟩) hB9 (.int .u64 (lim R 2))).setCell (p := ⟨B9, 3, none⟩) hB9 (.int .u64 (lim R 3))), fun _ => ⟨B8, m8, e8, hB8, ((((L8.other (p := ⟨B9, 0, none⟩) hne (.int .u64 (lim R 0))).other (p := ⟨B9, 1, none⟩) hne (.int .u64 (lim R 1))).other (p := ⟨B9, 2, none⟩) hne (.int .u64 (lim R 2))).other (p := ⟨B9, 3, none⟩) hne (.int .u64 (lim R 3)))⟩, fun _ => ⟨B9, _, e9, hB9, ((((L9.set (k := 0) (by omega) (lim R 0)).set (k := 1) (by omega) (lim R 1)).set (k := 2) (by omega) (lim R 2)).set (k := 3) (by omega) (lim R 3)), fun _ j hj => ?_⟩⟩
   rcases (show j = 0 ∨ j = 1 ∨ j = 2 ∨ j = 3 by omega) with rfl | rfl | rfl | rfl <;> simp
  simp only [Act.put]
  refine GW.nil (fun hall => ?_)
  obtain ⟨B9, m9, e9, hB9, L9, R9⟩ := h3 (hall 9 (by omega))
  have L9 := (L9.congr (R9 (hall 11 (by omega)))).to4
  rw [e9]
  have A3 := A3.below h1 (by rw [hz0]; omega)
  have BB := B0.trans (h1.mono (by rw [hz0]; omega))
  clear h2 h3 Dn A0 A1 A2 a0 a1 a2 a3 b0 b1 b2 b3 n0 n1 n2 n3 DD SS hall R9 put
  have c0 := L9.cell (j := 0) (by omega)
  have d0 := A3.cell (j := 0) (by omega)
  have z0 := A3.frozen 0
  have c1 := L9.cell (j := 1) (by omega)
  have d1 := A3.cell (j := 1) (by omega)
  have z1 := A3.frozen 1
  have c2 := L9.cell (j := 2) (by omega)
  have d2 := A3.cell (j := 2) (by omega)
  have z2 := A3.frozen 2
  have c3 := L9.cell (j := 3) (by omega)
  have d3 := A3.cell (j := 3) (by omega)
  have z3 := A3.frozen 3
  have HA := Lib.hid A3
  clear A3 L9
  go_wp2
  refine bodyPost_ret (results_word rfl rfl (HA.out.store (lim R))) rfl ⟨rfl, ?_⟩
  (repeat (first | exact BB | refine Below.setCell ?_ (by first | omega | (simp; done) | (simp; omega)) _ | refine Below.drew ?_))
theorem wmod_mull (a b : Nat) : wmod (wmod a * b) = wmod (a * b) := by unfold wmod; exact Nat.mod_mul_mod _ _ _
theorem wmod_mulr (a b : Nat) : wmod (a * wmod b) = wmod (a * b) := by unfold wmod; exact Nat.mul_mod_mod _ _ _
def exN (a b e : Nat) : Nat := wmod (a ^ (b / 2 ^ e))
theorem exN_lt (a b e : Nat) : W256 (exN a b e) := wmod_lt _
theorem half_of (b p : Nat) : b / 2 ^ p = 2 * (b / 2 ^ (p + 1)) + b / 2 ^ p % 2 := by
 rw [Nat.pow_succ, ← Nat.div_div_eq_div_mul]
 omega
theorem exN_even (a b p : Nat) (h : b / 2 ^ p % 2 = 0) : wmod (exN a b (p + 1) * exN a b (p + 1)) = exN a b p := by
 have e := half_of b p
 rw [h, Nat.add_zero] at e
 unfold exN
 rw [wmod_mull, wmod_mulr, ← Nat.pow_add, e]
 congr 2
 omega
theorem exN_odd (a b p : Nat) (h : b / 2 ^ p % 2 = 1) : wmod (wmod (exN a b (p + 1) * exN a b (p + 1)) * a) = exN a b p := by
 have e := half_of b p
 rw [h] at e
 unfold exN
 have h2 : wmod (wmod (a ^ (b / 2 ^ (p + 1))) * wmod (a ^ (b / 2 ^ (p + 1)))) = wmod (a ^ (b / 2 ^ (p + 1)) * a ^ (b / 2 ^ (p + 1))) := by rw [wmod_mull, wmod_mulr]
 rw [h2, wmod_mull, ← Nat.pow_add, ← Nat.pow_succ, e]
 congr 2
 omega
def ExSt (w : World) (S0 a b L P i : Nat) (W : World) : Prop :=
 (Arr4 W P 24 (lim (exN a b (L - i))) ∧ Arr4 W (w.heap.size) 24 (lim a) ∧ Arr4 W (w.heap.size + 1 + 1) 24 (fun _ => 0)) ∧ Below w.heap.size w W ∧ S0 ≤ W.heap.size
theorem ExSt.own (w : World) (S0 a b L P B : Nat) (hB : w.heap.size ≤ B) : OwnFrom B (fun i W => ExSt w S0 a b L P i W) :=
 OwnFrom.and (OwnFrom.and (Own.from (Arr4.own _ _ _) _) (OwnFrom.and (Own.from (Arr4.own _ _ _) _) (Own.from (Arr4.own _ _ _) _))) (OwnFrom.and (ownFrom_below (Nat.le_refl _) hB) (size_own _ _))
theorem exp_ret (a b : Nat) (ha : W256 a) (hb : W256 b) : Ret Tryz.prog 116 #[wv a, wv b] (wv (wmod (a ^ b))) := by
 intro w
 have h1 : 1 ≤ 4 := by omega
 have hbN : b < 18446744073709551616 ^ 4 := hb
 have O1 := of_ret 1 (by unfold I64; omega)
 have A0 := ((Arr4.mk4' w 24 (lim a)).alloc (.cells #[.int .u64 (lim b 0), .int .u64 (lim b 1), .int .u64 (lim b 2), .int .u64 (lim b 3)] 24)).alloc (.cells #[.int .u64 0, .int .u64 0, .int .u64 0, .int .u64 0] 24)
 have A1 := (Arr4.mk4' (w.alloc (.cells #[.int .u64 (lim a 0), .int .u64 (lim a 1), .int .u64 (lim a 2), .int .u64 (lim a 3)] 24)) 24 (lim b)).alloc (.cells #[.int .u64 0, .int .u64 0, .int .u64 0, .int .u64 0] 24)
 have AR := Arr4.mk0' ((w.alloc (.cells #[.int .u64 (lim a 0), .int .u64 (lim a 1), .int .u64 (lim a 2), .int .u64 (lim a 3)] 24)).alloc (.cells #[.int .u64 (lim b 0), .int .u64 (lim b 1), .int .u64 (lim b 2), .int .u64 (lim b 3)] 24)) 24
 have B0 := (((Below.refl _ w).alloc (Nat.le_refl _) (.cells #[.int .u64 (lim a 0), .int .u64 (lim a 1), .int .u64 (lim a 2), .int .u64 (lim a 3)] 24)).alloc (by simp) (.cells #[.int .u64 (lim b 0), .int .u64 (lim b 1), .int .u64 (lim b 2), .int .u64 (lim b 3)] 24)).alloc (by simp; omega) (.cells #[.int .u64 0, .int .u64 0, .int .u64 0, .int .u64 0] 24)
 have s0 : (((w.alloc (.cells #[.int .u64 (lim a 0), .int .u64 (lim a 1), .int .u64 (lim a 2), .int .u64 (lim a 3)] 24)).alloc (.cells #[.int .u64 (lim b 0), .int .u64 (lim b 1), .int .u64 (lim b 2), .int .u64 (lim b 3)] 24)).alloc (.cells #[.int .u64 0, .int .u64 0, .int .u64 0, .int .u64 0] 24)).heap.size = w.heap.size + 3 := by simp
 simp only [World.size_alloc] at A1 AR
 unfold wv at O1 ⊢
 refine (callsIn_wide (n := 4)).1 ?_
 refine callsIn_of_wp_marks Tryz.func116 rfl trivial ?_ rfl
 simp only [Tryz.ntmps116, List.size_toArray, List.length_cons, List.length_nil, Nat.reduceAdd, Nat.reduceSub, Array.replicate_succ, Array.replicate_zero, List.push_toArray, List.append_toArray, List.nil_append, List.cons_append]
 gi_wp2_with fail
 obtain ⟨W0, hW0⟩ : ∃ W0, ((w.alloc (.cells #[.int .u64 (lim a 0), .int .u64 (lim a 1), .int .u64 (lim a 2), .int .u64 (lim a 3)] 24)).alloc (.cells #[.int .u64 (lim b 0), .int .u64 (lim b 1), .int .u64 (lim b 2), .int .u64 (lim b 3)] 24)).alloc (.cells #[.int .u64 0, .int .u64 0, .int .u64 0, .int .u64 0] 24) = W0 := ⟨_, rfl⟩
 rw [hW0] at A0 A1 AR B0 s0 ⊢
 clear hW0
 refine (callsIn_free free_wide (O1 W0)).mono ?_
 rintro e W1 ⟨rfl, q⟩
 have A0 := (A0.later' q).alloc (.cells #[.int .u64 (lim (ofN 1) 0), .int .u64 (lim (ofN 1) 1), .int .u64 (lim (ofN 1) 2), .int .u64 (lim (ofN 1) 3)] 24)
 have A1' := A1.later' q
 have A1 := A1'.alloc (.cells #[.int .u64 (lim (ofN 1) 0), .int .u64 (lim (ofN 1) 1), .int .u64 (lim (ofN 1) 2), .int .u64 (lim (ofN 1) 3)] 24)
 have AR := (AR.later' q).alloc (.cells #[.int .u64 (lim (ofN 1) 0), .int .u64 (lim (ofN 1) 1), .int .u64 (lim (ofN 1) 2), .int .u64 (lim (ofN 1) 3)] 24)
 have AP := Arr4.mk4' W1 24 (lim (ofN 1))
 have B1 := B0.trans (q.mono B0.size)
 have s1 := q.size
 have B0 := B1.alloc B1.size (.cells #[.int .u64 (lim (ofN 1) 0), .int .u64 (lim (ofN 1) 1), .int .u64 (lim (ofN 1) 2), .int .u64 (lim (ofN 1) 3)] 24)
 have m0 := A1.cell (j := 0) (by omega)
 have m1 := A1.cell (j := 1) (by omega)
 have m2 := A1.cell (j := 2) (by omega)
 have m3 := A1.cell (j := 3) (by omega)
 gi_wp2_with fail
 have LE := Limbs.of4 (Arr4.mk4' (W1.alloc (.cells #[.int .u64 (lim (ofN 1) 0), .int .u64 (lim (ofN 1) 1), .int .u64 (lim (ofN 1) 2), .int .u64 (lim (ofN 1) 3)] 24)) 129 (lim b))
 have A0 := A0.alloc (.cells #[.int .u64 (lim b 0), .int .u64 (lim b 1), .int .u64 (lim b 2), .int .u64 (lim b 3)] 129)
 have AR := AR.alloc (.cells #[.int .u64 (lim b 0), .int .u64 (lim b 1), .int .u64 (lim b 2), .int .u64 (lim b 3)] 129)
 have AP := AP.alloc (.cells #[.int .u64 (lim b 0), .int .u64 (lim b 1), .int .u64 (lim b 2), .int .u64 (lim b 3)] 129)
 have B0 := B0.alloc (by simp; omega) (.cells #[.int .u64 (lim b 0), .int .u64 (lim b 1), .int .u64 (lim b 2), .int .u64 (lim b 3)] 129)
 rw [World.size_alloc] at LE
 obtain ⟨P, hP⟩ : ∃ P, W1.heap.size = P := ⟨_, rfl⟩
 have s2 : ((W1.alloc (.cells #[.int .u64 (lim (ofN 1) 0), .int .u64 (lim (ofN 1) 1), .int .u64 (lim (ofN 1) 2), .int .u64 (lim (ofN 1) 3)] 24)).alloc (.cells #[.int .u64 (lim b 0), .int .u64 (lim b 1), .int .u64 (lim b 2), .int .u64 (lim b 3)] 129)).heap.size = P + 2 := by simp [hP]
 obtain ⟨W2, hW2⟩ : ∃ W2, (W1.alloc (.cells #[.int .u64 (lim (ofN 1) 0), .int .u64 (lim (ofN 1) 1), .int .u64 (lim (ofN 1) 2), .int .u64 (lim (ofN 1) 3)] 24)).alloc (.cells #[.int .u64 (lim b 0), .int .u64 (lim b 1), .int .u64 (lim b 2), .int .u64 (lim b 3)] 129) = W2 := ⟨_, rfl⟩
 rw [hW2] at A0 AR AP LE B0 s2 ⊢
 clear hW2 m0 m1 m2 m3 A1 A1' B1 q O1
 rw [hP] at AP LE s1 ⊢
 clear hP
 refine (callsIn_free free_wide (length4_any (P + 1) b (lim b) (fun j hj => limN_lim b j hj) hbN W2 LE)).mono ?_
 rintro e w' ⟨⟨L, rfl, hL, hL9⟩, rfl⟩
 have hbL : b / 2 ^ L = 0 := Nat.div_eq_of_lt hL.1
 clear hL
 have HS2 := Lib.hid s2
 clear s2
 gi_wp2_with fail
 refine (callsIn_free free_wide (bits4_any (P + 1) (L : Int) W2)).mono ?_
 rintro e w' ⟨rfl, rfl⟩
 gi_wp2
 have s2 := HS2.out
 have A0 := (A0.alloc (.cells #[.pointer (some ⟨P + 1, 0, none⟩)] 151)).alloc (.cells #[.int .i64 (L : Int)] 3)
 have AR := (AR.alloc (.cells #[.pointer (some ⟨P + 1, 0, none⟩)] 151)).alloc (.cells #[.int .i64 (L : Int)] 3)
 have AP := (AP.alloc (.cells #[.pointer (some ⟨P + 1, 0, none⟩)] 151)).alloc (.cells #[.int .i64 (L : Int)] 3)
 have LE := (LE.alloc (.cells #[.pointer (some ⟨P + 1, 0, none⟩)] 151)).alloc (.cells #[.int .i64 (L : Int)] 3)
 have B0 := (B0.alloc (by omega) (.cells #[.pointer (some ⟨P + 1, 0, none⟩)] 151)).alloc (by simp; omega) (.cells #[.int .i64 (L : Int)] 3)
 have bX := (Boxed.new W2 151 (.pointer (some ⟨P + 1, 0, none⟩))).alloc (.cells #[.int .i64 (L : Int)] 3)
 have bI := Boxed.new (W2.alloc (.cells #[.pointer (some ⟨P + 1, 0, none⟩)] 151)) 3 (.int .i64 (L : Int))
 have s3 : ((W2.alloc (.cells #[.pointer (some ⟨P + 1, 0, none⟩)] 151)).alloc (.cells #[.int .i64 (L : Int)] 3)).heap.size = W2.heap.size + 2 := by simp
 rw [World.size_alloc] at bI
 obtain ⟨W3, hW3⟩ : ∃ W3, (W2.alloc (.cells #[.pointer (some ⟨P + 1, 0, none⟩)] 151)).alloc (.cells #[.int .i64 (L : Int)] 3) = W3 := ⟨_, rfl⟩
 rw [hW3] at A0 AR AP LE B0 bX bI s3 ⊢
 clear hW3
 generalize W2.heap.size = bs at *
 have e0 : exN a b L = ofN 1 := by unfold exN; rw [hbL, Nat.pow_zero]; rfl
 have hI0 : ExSt w (bs + 2) a b L P 0 W3 := by
  refine ⟨⟨?_, A0, AR⟩, B0, by omega⟩
  rw [Nat.sub_zero, e0]
  exact AP
 refine wpIn_rangeFunc_N1 rfl h1 (gf := 164) (lb := #[.pointer (some ⟨bs + 1, 0, none⟩), .pointer (some ⟨bs, 0, none⟩)]) rfl trivial (enters_of Tryz.func164 (by kernel_rfl) rfl)
  (bits4_seq _ (by omega) (bs + 1) bs (P + 1) L b (by omega) W3 (by omega) (by omega) (by omega) bI.cell bX.cell (fun j hj => (LE.cell hj).trans (by rw [limN_lim b j hj]))) KeepsAt.trans (KeepsAt.refl _) (KeepsAt.b (by simp; omega)) (fun _ _ => rfl)
  (fun i W => ExSt w (bs + 2) a b L P i W)
  (fun _ _ _ => False)
  (ExSt.own w (bs + 2) a b L P _ (by omega))
  (fun _ _ _ _ _ hs _ _ => hs)
  hI0
  (fun i => { tmps := #[.agg #[.int .u64 (lim a 0), .int .u64 (lim a 1), .int .u64 (lim a 2), .int .u64 (lim a 3)], .agg #[.int .u64 (lim b 0), .int .u64 (lim b 1), .int .u64 (lim b 2), .int .u64 (lim b 3)], .pointer (some ⟨w.heap.size, 0, none⟩), .pointer (some ⟨w.heap.size + 1, 0, none⟩), .pointer (some ⟨w.heap.size + 1 + 1, 0, none⟩), .pointer (some ⟨P, 0, none⟩), .pointer (some ⟨P + 1, 0, none⟩), undef, .int .u64 ((b / 2 ^ (L - 1 - i) % 2 : Nat) : Int), .agg #[.int .u64 (lim (ofN 1) 0), .int .u64 (lim (ofN 1) 1), .int .u64 (lim (ofN 1) 2), .int .u64 (lim (ofN 1) 3)], .agg #[.int .u64 (lim b 0), .int .u64 (lim b 1), .int .u64 (lim b 2), .int .u64 (lim b 3)], .agg #[.int .u64 (lim b 0), .int .u64 (lim b 1), .int .u64 (lim b 2), .int .u64 (lim b 3)], .int .i64 (L : Int), .func (.func 164) #[] #[.pointer (some ⟨bs + 1, 0, none⟩), .pointer (some ⟨bs, 0, none⟩)], .int .i64 ((L - 1 - i : Nat) : Int), .int .u64 ((b / 2 ^ (L - 1 - i) % 2 : Nat) : Int), undef, undef, undef, undef, undef, undef, undef, undef, undef], defers := [] }) ?assign ?body ?done ?stop
 case assign =>
  intro l i W K _ hK
  have H2 := Lib.hid s2
  clear s2
  generalize ((b / 2 ^ (L - 1 - i) % 2 : Nat) : Int) = bitv at hK ⊢
  generalize ((L - 1 - i : Nat) : Int) = posv at hK ⊢
  gi_wp2
  exact hK
 case body =>
  rintro l i W _ hi ⟨⟨ap, a0, ar⟩, hB, hs⟩
  obtain ⟨p, hp⟩ : ∃ p, p = L - 1 - i := ⟨_, rfl⟩
  have hp1 : L - i = p + 1 := by omega
  have hp2 : L - (i + 1) = p := by omega
  rw [hp1] at ap
  rw [← hp]
  have H2 := Lib.hid s2
  have HP := Lib.hid hp
  clear s2 hp
  have HP2 := Lib.hid hp2
  have ev := exN_even a b p
  have od := exN_odd a b p
  have M1 := mul_ret (exN a b (p + 1)) (exN a b (p + 1)) (exN_lt _ _ _) (exN_lt _ _ _)
  have hsq := wmod_lt (exN a b (p + 1) * exN a b (p + 1))
  generalize wmod (exN a b (p + 1) * exN a b (p + 1)) = sq at *
  have M2 := mul_ret sq a hsq ha
  unfold wv at M1 M2
  have x0 := ap.cell (j := 0) (by omega)
  have x1 := ap.cell (j := 1) (by omega)
  have x2 := ap.cell (j := 2) (by omega)
  have x3 := ap.cell (j := 3) (by omega)
  gi_wp2_with fail
  refine (callsIn_free (free_round l) (M1 W)).mono ?_
  rintro e W4 ⟨rfl, q⟩
  have s2 := H2.out
  have ap4 := ap.later' q
  have a04 := a0.later' q
  have ar4 := ar.later' q
  have hB4 := hB.trans (q.mono hB.size)
  have hs4 := Nat.le_trans hs q.size
  have K4 : KeepsFrom W3.heap.size W W4 := Ext.keeps (⟨W4, q⟩ : Ext W) _
  have KA4 : KeepsAt [bs + 1, bs, P + 1] W W4 := (KeepsAt.refl _ _).below q (fun y hy => by simp at hy; omega)
  clear x0 x1 x2 x3 hi hp1 hp2
  have y0 := ap4.cell (j := 0) (by omega)
  have y1 := ap4.cell (j := 1) (by omega)
  have y2 := ap4.cell (j := 2) (by omega)
  have y3 := ap4.cell (j := 3) (by omega)
  have z0 := ap4.frozen 0
  have z1 := ap4.frozen 1
  have z2 := ap4.frozen 2
  have z3 := ap4.frozen 3
  have ap5 := Lib.hid (ap4.store (lim sq))
  have a05 := Lib.hid (((((a04.other (p := ⟨P, 0, none⟩) (show w.heap.size ≠ P by omega) (.int .u64 (lim sq 0))).other (p := ⟨P, 1, none⟩) (show w.heap.size ≠ P by omega) (.int .u64 (lim sq 1))).other (p := ⟨P, 2, none⟩) (show w.heap.size ≠ P by omega) (.int .u64 (lim sq 2))).other (p := ⟨P, 3, none⟩) (show w.heap.size ≠ P by omega) (.int .u64 (lim sq 3))))
  have ar5 := Lib.hid (((((ar4.other (p := ⟨P, 0, none⟩) (show w.heap.size + 1 + 1 ≠ P by omega) (.int .u64 (lim sq 0))).other (p := ⟨P, 1, none⟩) (show w.heap.size + 1 + 1 ≠ P by omega) (.int .u64 (lim sq 1))).other (p := ⟨P, 2, none⟩) (show w.heap.size + 1 + 1 ≠ P by omega) (.int .u64 (lim sq 2))).other (p := ⟨P, 3, none⟩) (show w.heap.size + 1 + 1 ≠ P by omega) (.int .u64 (lim sq 3))))
  have hB5 := Lib.hid (((((hB4.setCell (p := ⟨P, 0, none⟩) (show w.heap.size ≤ P by omega) (.int .u64 (lim sq 0))).setCell (p := ⟨P, 1, none⟩) (show w.heap.size ≤ P by omega) (.int .u64 (lim sq 1))).setCell (p := ⟨P, 2, none⟩) (show w.heap.size ≤ P by omega) (.int .u64 (lim sq 2))).setCell (p := ⟨P, 3, none⟩) (show w.heap.size ≤ P by omega) (.int .u64 (lim sq 3))))
  have K5 := Lib.hid (((((K4.trans ((KeepsOthers.setCell _ ⟨P, 0, none⟩ (.int .u64 (lim sq 0))).from _)).trans ((KeepsOthers.setCell _ ⟨P, 1, none⟩ (.int .u64 (lim sq 1))).from _)).trans ((KeepsOthers.setCell _ ⟨P, 2, none⟩ (.int .u64 (lim sq 2))).from _)).trans ((KeepsOthers.setCell _ ⟨P, 3, none⟩ (.int .u64 (lim sq 3))).from _)))
  have KA5 := Lib.hid (((((KA4.setCell (p := ⟨P, 0, none⟩) (by simp; omega) (.int .u64 (lim sq 0))).setCell (p := ⟨P, 1, none⟩) (by simp; omega) (.int .u64 (lim sq 1))).setCell (p := ⟨P, 2, none⟩) (by simp; omega) (.int .u64 (lim sq 2))).setCell (p := ⟨P, 3, none⟩) (by simp; omega) (.int .u64 (lim sq 3))))
  have hs5 : Hid (bs + 2 ≤ ((((((W4.setCell ⟨P, 0, none⟩ (.int .u64 (lim sq 0))).setCell ⟨P, 1, none⟩ (.int .u64 (lim sq 1))).setCell ⟨P, 2, none⟩ (.int .u64 (lim sq 2))).setCell ⟨P, 3, none⟩ (.int .u64 (lim sq 3))))).heap.size) := by show bs + 2 ≤ _; simp [World.setCell]; omega
  by_cases hbit : b / 2 ^ p % 2 = 1
  ·have hb1 : ((b / 2 ^ p % 2 : Nat) : Int) = 1 := by omega
   have hod := od hbit
   rw [hod] at M2
   clear ap a0 ar hB hs ap4 a04 ar4 hB4 hs4 K4 KA4 M1 hod ev od hbit
   have q0 := ap5.out.cell (j := 0) (by omega)
   have q1 := ap5.out.cell (j := 1) (by omega)
   have q2 := ap5.out.cell (j := 2) (by omega)
   have q3 := ap5.out.cell (j := 3) (by omega)
   have t0 := a05.out.cell (j := 0) (by omega)
   have t1 := a05.out.cell (j := 1) (by omega)
   have t2 := a05.out.cell (j := 2) (by omega)
   have t3 := a05.out.cell (j := 3) (by omega)
   clear s2
   gi_wp2_with fail
   have s2 := H2.out
   clear y0 y1 y2 y3 z0 z1 z2 z3 q0 q1 q2 q3 t0 t1 t2 t3
   obtain ⟨W5, hW5⟩ : ∃ W5, (((((W4.setCell ⟨P, 0, none⟩ (.int .u64 (lim sq 0))).setCell ⟨P, 1, none⟩ (.int .u64 (lim sq 1))).setCell ⟨P, 2, none⟩ (.int .u64 (lim sq 2))).setCell ⟨P, 3, none⟩ (.int .u64 (lim sq 3)))) = W5 := ⟨_, rfl⟩
   rw [hW5] at ap5 a05 ar5 hB5 K5 KA5 hs5 ⊢
   clear hW5
   refine (callsIn_free (free_round l) (M2 W5)).mono ?_
   rintro e W6 ⟨rfl, q⟩
   have ap6 := ap5.out.later' q
   have a06 := a05.out.later' q
   have ar6 := ar5.out.later' q
   have hB6 := hB5.out.trans (q.mono hB5.out.size)
   have hs6 := Nat.le_trans hs5.out q.size
   have K6 : KeepsFrom W3.heap.size W W6 := K5.out.trans (Ext.keeps (⟨W6, q⟩ : Ext W5) _)
   have KA6 : KeepsAt [bs + 1, bs, P + 1] W W6 := KA5.out.below q (fun y hy => by have := hs5.out; simp at hy; omega)
   clear ap5 a05 ar5 hB5 K5 KA5 hs5 q
   have y0 := ap6.cell (j := 0) (by omega)
   have y1 := ap6.cell (j := 1) (by omega)
   have y2 := ap6.cell (j := 2) (by omega)
   have y3 := ap6.cell (j := 3) (by omega)
   have z0 := ap6.frozen 0
   have z1 := ap6.frozen 1
   have z2 := ap6.frozen 2
   have z3 := ap6.frozen 3
   clear s2
   gi_wp2
   have s2 := H2.out
   refine ⟨((((K6.trans ((KeepsOthers.setCell _ ⟨P, 0, none⟩ (.int .u64 (lim (exN a b p) 0))).from _)).trans ((KeepsOthers.setCell _ ⟨P, 1, none⟩ (.int .u64 (lim (exN a b p) 1))).from _)).trans ((KeepsOthers.setCell _ ⟨P, 2, none⟩ (.int .u64 (lim (exN a b p) 2))).from _)).trans ((KeepsOthers.setCell _ ⟨P, 3, none⟩ (.int .u64 (lim (exN a b p) 3))).from _)), ((((KA6.setCell (p := ⟨P, 0, none⟩) (by simp; omega) (.int .u64 (lim (exN a b p) 0))).setCell (p := ⟨P, 1, none⟩) (by simp; omega) (.int .u64 (lim (exN a b p) 1))).setCell (p := ⟨P, 2, none⟩) (by simp; omega) (.int .u64 (lim (exN a b p) 2))).setCell (p := ⟨P, 3, none⟩) (by simp; omega) (.int .u64 (lim (exN a b p) 3))), ⟨?_, ((((a06.other (p := ⟨P, 0, none⟩) (show w.heap.size ≠ P by omega) (.int .u64 (lim (exN a b p) 0))).other (p := ⟨P, 1, none⟩) (show w.heap.size ≠ P by omega) (.int .u64 (lim (exN a b p) 1))).other (p := ⟨P, 2, none⟩) (show w.heap.size ≠ P by omega) (.int .u64 (lim (exN a b p) 2))).other (p := ⟨P, 3, none⟩) (show w.heap.size ≠ P by omega) (.int .u64 (lim (exN a b p) 3))), ((((ar6.other (p := ⟨P, 0, none⟩) (show w.heap.size + 1 + 1 ≠ P by omega) (.int .u64 (lim (exN a b p) 0))).other (p := ⟨P, 1, none⟩) (show w.heap.size + 1 + 1 ≠ P by omega) (.int .u64 (lim (exN a b p) 1))).other (p := ⟨P, 2, none⟩) (show w.heap.size + 1 + 1 ≠ P by omega) (.int .u64 (lim (exN a b p) 2))).other (p := ⟨P, 3, none⟩) (show w.heap.size + 1 + 1 ≠ P by omega) (.int .u64 (lim (exN a b p) 3)))⟩, ((((hB6.setCell (p := ⟨P, 0, none⟩) (show w.heap.size ≤ P by omega) (.int .u64 (lim (exN a b p) 0))).setCell (p := ⟨P, 1, none⟩) (show w.heap.size ≤ P by omega) (.int .u64 (lim (exN a b p) 1))).setCell (p := ⟨P, 2, none⟩) (show w.heap.size ≤ P by omega) (.int .u64 (lim (exN a b p) 2))).setCell (p := ⟨P, 3, none⟩) (show w.heap.size ≤ P by omega) (.int .u64 (lim (exN a b p) 3))), ?_⟩
   ·rw [HP2.out]; exact ap6.store (lim (exN a b p))
   ·simp [World.setCell]; omega
  ·have hb0 : b / 2 ^ p % 2 = 0 := by omega
   have hbI : ((b / 2 ^ p % 2 : Nat) : Int) = 0 := by omega
   have hev := ev hb0
   have HEV := Lib.hid hev
   clear ap a0 ar hB hs ap4 a04 ar4 hB4 hs4 K4 KA4 M1 M2 hev ev od hbit hb0 s2
   gi_wp2
   have s2 := H2.out
   refine ⟨K5.out, KA5.out, ⟨?_, a05.out, ar5.out⟩, hB5.out, hs5.out⟩
   rw [HP2.out, ← HEV.out]; exact ap5.out
 case done =>
  rintro D W hD ⟨⟨ap, a0, ar⟩, hB, hs⟩ hK
  rw [Nat.sub_self] at ap
  have ee : exN a b 0 = wmod (a ^ b) := by unfold exN; rw [Nat.pow_zero, Nat.div_one]
  rw [ee] at ap
  have c0 := ar.cell (j := 0) (by omega)
  have c1 := ar.cell (j := 1) (by omega)
  have c2 := ar.cell (j := 2) (by omega)
  have c3 := ar.cell (j := 3) (by omega)
  have f0 := ar.frozen 0
  have f1 := ar.frozen 1
  have f2 := ar.frozen 2
  have f3 := ar.frozen 3
  have d0 := ap.cell (j := 0) (by omega)
  have d1 := ap.cell (j := 1) (by omega)
  have d2 := ap.cell (j := 2) (by omega)
  have d3 := ap.cell (j := 3) (by omega)
  have HB2 := Lib.hid ar
  have HBe := Lib.hid hB
  have HK := Lib.hid hK
  have H2 := Lib.hid s2
  clear ap a0 ar hB hK hI0 s2
  gi_wp2
  have s2 := H2.out
  have hK' := ((((KeepsOthers.setCell W ⟨w.heap.size + 1 + 1, 0, none⟩ (.int .u64 (lim (wmod (a ^ b)) 0))).trans (KeepsOthers.setCell _ ⟨w.heap.size + 1 + 1, 1, none⟩ (.int .u64 (lim (wmod (a ^ b)) 1)))).trans (KeepsOthers.setCell _ ⟨w.heap.size + 1 + 1, 2, none⟩ (.int .u64 (lim (wmod (a ^ b)) 2)))).trans (KeepsOthers.setCell _ ⟨w.heap.size + 1 + 1, 3, none⟩ (.int .u64 (lim (wmod (a ^ b)) 3)))).same D _ HK.out rfl
  have b9 := HB2.out.store (lim (wmod (a ^ b)))
  refine ⟨by simp, .inl ⟨_, _, rfl, run_takeDeferred hK', ?_⟩⟩
  exact ⟨_, results_word rfl rfl (Arr4.kept b9 (grownBy_putObj' _ D (.deferred none)) (fun e => by injection e with e; omega)), rfl,
   ((((HBe.out.setCell (p := ⟨w.heap.size + 1 + 1, 0, none⟩) (by simp; omega) _).setCell (p := ⟨w.heap.size + 1 + 1, 1, none⟩) (by simp; omega) _).setCell (p := ⟨w.heap.size + 1 + 1, 2, none⟩) (by simp; omega) _).setCell (p := ⟨w.heap.size + 1 + 1, 3, none⟩) (by simp; omega) _).trans (belowK_b (w := w) (Nat.le_refl _) _ D _ _ (by omega) hK' rfl rfl)⟩
 case stop =>
  rintro D c i W _ _ h _
  exact h.elim
end
section
open Go Go.RowKit
theorem Addr.add_add (b : Addr) (i j : Nat) : (b.add i).add j = b.add (i + j) := by
 unfold Addr.add
 by_cases hi : i = 0
 ·subst hi; simp
 ·by_cases hj : j = 0
  ·subst hj; simp [hi]
  ·simp only [hi, hj, if_false]
   rw [if_neg (by omega)]
   simp []
theorem cell_lt {W : World} {a : Addr} {u : Value} (h : W.cell? a = some u) : a.block < W.heap.size := by
 unfold World.cell? at h
 rcases Nat.lt_or_ge a.block W.heap.size with h' | h'
 ·exact h'
 ·rw [Array.getElem?_eq_none h'] at h
  cases h
theorem cell_below {W X : World} (hb : Below W.heap.size W X) (a : Addr) (u : Value) (h : W.cell? a = some u) : X.cell? a = some u := by
 exact (World.cell?_of_block (hb.block _ (cell_lt h))).trans h
end
end Go.Proofs.YtnkhmgmganejmaaGreatDoor
