/- Addmod and Mulmod: what they answer, for every word. -/
import Derived.Test.YtnlcllhjhbaigaaDivK
import Derived.Test.YtnlcllhjhbaigaaGhost
namespace Go.Proofs.Ytnlcllhjhbaigaa
open Go Go.RowKit Go.Shelf
attribute [local go_sem] Oper.semAt_some Grows wide_fn

/-- Long division of eight parts, by whatever word. -/
theorem divide8_calls (M n : Nat) (hM : M < 18446744073709551616 ^ 8) (hn : W256 n) : ∃ q : Nat → Int, ∀ w, Calls Try.prog 29 #[.agg #[.int .u64 (limN (M) 0 : Int), .int .u64 (limN (M) 1 : Int), .int .u64 (limN (M) 2 : Int), .int .u64 (limN (M) 3 : Int), .int .u64 (limN (M) 4 : Int), .int .u64 (limN (M) 5 : Int), .int .u64 (limN (M) 6 : Int), .int .u64 (limN (M) 7 : Int)], .agg #[.int .u64 (lim n 0), .int .u64 (lim n 1), .int .u64 (lim n 2), .int .u64 (lim n 3)]] w fun e w' => e = .returned (.tuple #[.agg #[.int .u64 (q 0), .int .u64 (q 1), .int .u64 (q 2), .int .u64 (q 3), .int .u64 (q 4), .int .u64 (q 5), .int .u64 (q 6), .int .u64 (q 7)], .agg #[.int .u64 (lim (if n = 0 then 0 else M % n) 0), .int .u64 (lim (if n = 0 then 0 else M % n) 1), .int .u64 (lim (if n = 0 then 0 else M % n) 2), .int .u64 (lim (if n = 0 then 0 else M % n) 3)]]) ∧ Below w.heap.size w w' := by
  by_cases h0 : n = 0
  · subst h0
    have ez : ∀ j, lim 0 j = 0 := fun j => by unfold lim; split <;> simp
    refine ⟨fun _ => 0, fun w => ?_⟩
    have := divide8_zero (fun j => (limN M j : Int)) w
    simpa only [ez, if_true] using this
  · refine ⟨fun j => (limN (M / n) j : Int), fun w => ?_⟩
    have := divide8_any M n (fun j => (limN M j : Int)) (fun _ _ => rfl) hM hn h0 w
    unfold wv at this
    simpa only [if_neg h0] using this

theorem Limbs.new4 (W : World) (t : TypeId) : Limbs (W.alloc (.cells #[.int .u64 0, .int .u64 0, .int .u64 0, .int .u64 0] t)) W.heap.size t 4 (fun _ => 0) := ⟨_, World.alloc_heap_new W _, rfl, fun j hj => by
  rcases (show j = 0 ∨ j = 1 ∨ j = 2 ∨ j = 3 by omega) with rfl | rfl | rfl | rfl <;> rfl⟩
theorem Limbs.new8 (W : World) (t : TypeId) : Limbs (W.alloc (.cells #[.int .u64 0, .int .u64 0, .int .u64 0, .int .u64 0, .int .u64 0, .int .u64 0, .int .u64 0, .int .u64 0] t)) W.heap.size t 8 (fun _ => 0) := ⟨_, World.alloc_heap_new W _, rfl, fun j hj => by
  rcases (show j = 0 ∨ j = 1 ∨ j = 2 ∨ j = 3 ∨ j = 4 ∨ j = 5 ∨ j = 6 ∨ j = 7 by omega) with rfl | rfl | rfl | rfl | rfl | rfl | rfl | rfl <;> rfl⟩
theorem Limbs.ne_of_size {W : World} {B B' n n' : Nat} {t t' : TypeId} {m m' : Nat → Int} (h : Limbs W B t n m) (h' : Limbs W B' t' n' m') (hn : n ≠ n') : B ≠ B' := by
  rintro rfl
  obtain ⟨cur, h1, h2, _⟩ := h
  obtain ⟨cur', h1', h2', _⟩ := h'
  rw [h1] at h1'
  injection h1' with e
  injection e with e
  exact hn (by rw [← h2, ← h2', e])

theorem below_of_grown {n : Nat} {A V X : World} {p : Addr} {v : Value} (h : Below n A V) (hp : n ≤ p.block) (e : X = V.setCell p v) : Below n A X := by
  subst e; exact h.setCell hp v

set_option maxRecDepth 100000 in
set_option maxHeartbeats 4000000 in
theorem addmod_ret (a b n : Nat) (ha : W256 a) (hb : W256 b) (hn : W256 n) : Ret Try.prog 13 #[wv a, wv b, wv n] (wv (if n = 0 then 0 else (a + b) % n)) := by
  intro w
  have hM : a + b < 18446744073709551616 ^ 8 := by unfold W256 at ha hb; omega
  obtain ⟨q, DD⟩ := divide8_calls (a + b) n hM hn
  have SS := sum_any a b ha hb
  generalize (if n = 0 then 0 else (a + b) % n) = R at DD ⊢
  clear ha hb hn hM
  unfold wv at SS ⊢
  go_enter Try.func13, Try.ntmps13
  have A0 := ((Arr4.mk4' w 24 (lim a)).alloc (.cells #[.int .u64 (lim b 0), .int .u64 (lim b 1), .int .u64 (lim b 2), .int .u64 (lim b 3)] 24)).alloc (.cells #[.int .u64 (lim n 0), .int .u64 (lim n 1), .int .u64 (lim n 2), .int .u64 (lim n 3)] 24) |>.alloc (.cells #[.int .u64 0, .int .u64 0, .int .u64 0, .int .u64 0] 24)
  have A1 := ((Arr4.mk4' (w.alloc (.cells #[.int .u64 (lim a 0), .int .u64 (lim a 1), .int .u64 (lim a 2), .int .u64 (lim a 3)] 24)) 24 (lim b)).alloc (.cells #[.int .u64 (lim n 0), .int .u64 (lim n 1), .int .u64 (lim n 2), .int .u64 (lim n 3)] 24)).alloc (.cells #[.int .u64 0, .int .u64 0, .int .u64 0, .int .u64 0] 24)
  have A2 := (Arr4.mk4' ((w.alloc (.cells #[.int .u64 (lim a 0), .int .u64 (lim a 1), .int .u64 (lim a 2), .int .u64 (lim a 3)] 24)).alloc (.cells #[.int .u64 (lim b 0), .int .u64 (lim b 1), .int .u64 (lim b 2), .int .u64 (lim b 3)] 24)) 24 (lim n)).alloc (.cells #[.int .u64 0, .int .u64 0, .int .u64 0, .int .u64 0] 24)
  have A3 := Arr4.mk0' (((w.alloc (.cells #[.int .u64 (lim a 0), .int .u64 (lim a 1), .int .u64 (lim a 2), .int .u64 (lim a 3)] 24)).alloc (.cells #[.int .u64 (lim b 0), .int .u64 (lim b 1), .int .u64 (lim b 2), .int .u64 (lim b 3)] 24)).alloc (.cells #[.int .u64 (lim n 0), .int .u64 (lim n 1), .int .u64 (lim n 2), .int .u64 (lim n 3)] 24)) 24
  have B0 := ((((Below.refl _ w).alloc (Nat.le_refl _) (.cells #[.int .u64 (lim a 0), .int .u64 (lim a 1), .int .u64 (lim a 2), .int .u64 (lim a 3)] 24)).alloc (by simp) (.cells #[.int .u64 (lim b 0), .int .u64 (lim b 1), .int .u64 (lim b 2), .int .u64 (lim b 3)] 24)).alloc (by simp; omega) (.cells #[.int .u64 (lim n 0), .int .u64 (lim n 1), .int .u64 (lim n 2), .int .u64 (lim n 3)] 24)).alloc (by simp; omega) (.cells #[.int .u64 0, .int .u64 0, .int .u64 0, .int .u64 0] 24)
  simp only [World.size_alloc] at A1 A2 A3
  go_wp2_with fail
  obtain ⟨W0, hW0⟩ : ∃ W0, ((((w.alloc (.cells #[.int .u64 (lim a 0), .int .u64 (lim a 1), .int .u64 (lim a 2), .int .u64 (lim a 3)] 24)).alloc (.cells #[.int .u64 (lim b 0), .int .u64 (lim b 1), .int .u64 (lim b 2), .int .u64 (lim b 3)] 24)).alloc (.cells #[.int .u64 (lim n 0), .int .u64 (lim n 1), .int .u64 (lim n 2), .int .u64 (lim n 3)] 24)).alloc (.cells #[.int .u64 0, .int .u64 0, .int .u64 0, .int .u64 0] 24)) = W0 := ⟨_, rfl⟩
  have hz0 : W0.heap.size = w.heap.size + 1 + 1 + 1 + 1 := by rw [← hW0]; simp
  rw [hW0] at A0 A1 A2 A3 B0 ⊢
  clear hW0
  refine wp_region_ghost [some (.agg #[.int .u64 (lim a 0), .int .u64 (lim a 1), .int .u64 (lim a 2), .int .u64 (lim a 3)]), some (.agg #[.int .u64 (lim b 0), .int .u64 (lim b 1), .int .u64 (lim b 2), .int .u64 (lim b 3)]), some (.agg #[.int .u64 (limN (a + b) 0 : Int), .int .u64 (limN (a + b) 1 : Int), .int .u64 (limN (a + b) 2 : Int), .int .u64 (limN (a + b) 3 : Int), .int .u64 (limN (a + b) 4 : Int), .int .u64 (limN (a + b) 5 : Int), .int .u64 (limN (a + b) 6 : Int), .int .u64 (limN (a + b) 7 : Int)]), some (.agg #[.int .u64 (lim n 0), .int .u64 (lim n 1), .int .u64 (lim n 2), .int .u64 (lim n 3)]), some (.tuple #[.agg #[.int .u64 (q 0), .int .u64 (q 1), .int .u64 (q 2), .int .u64 (q 3), .int .u64 (q 4), .int .u64 (q 5), .int .u64 (q 6), .int .u64 (q 7)], .agg #[.int .u64 (lim R 0), .int .u64 (lim R 1), .int .u64 (lim R 2), .int .u64 (lim R 3)]]), some (.tuple #[.agg #[.int .u64 (q 0), .int .u64 (q 1), .int .u64 (q 2), .int .u64 (q 3), .int .u64 (q 4), .int .u64 (q 5), .int .u64 (q 6), .int .u64 (q 7)], .agg #[.int .u64 (lim R 0), .int .u64 (lim R 1), .int .u64 (lim R 2), .int .u64 (lim R 3)]]), some (.agg #[.int .u64 (q 0), .int .u64 (q 1), .int .u64 (q 2), .int .u64 (q 3), .int .u64 (q 4), .int .u64 (q 5), .int .u64 (q 6), .int .u64 (q 7)]), some (.agg #[.int .u64 (lim R 0), .int .u64 (lim R 1), .int .u64 (lim R 2), .int .u64 (lim R 3)]), none, none, none, none] [[], [], [0, 1], [], [0, 1, 2, 3], [0, 1, 2, 3, 4], [0, 1, 2, 3, 4, 5], [0, 1, 2, 3, 4, 5], [], [], [0, 1, 2, 3, 4, 5, 6, 8, 9], [0, 1, 2, 3, 4, 5, 6, 7, 8, 9, 10]]
    (fun f g w' => Below W0.heap.size W0 w' ∧ (f 8 = true → ∃ B m, g 8 = .pointer (some ⟨B, 0, none⟩) ∧ W0.heap.size ≤ B ∧ Limbs w' B 43 8 m) ∧ (f 9 = true → ∃ B m, g 9 = .pointer (some ⟨B, 0, none⟩) ∧ W0.heap.size ≤ B ∧ Limbs w' B 24 4 m ∧ (f 11 = true → ∀ j, j < 4 → m j = lim R j)))
    (by kernel_rfl) (by kernel_rfl) (by kernel_rfl) ?_ ?_ ?_ ?_
  · rintro f g w1 w2 ⟨h1, h2, h3⟩ hb
    exact ⟨h1.trans (hb.mono h1.size), fun h => let ⟨B, m, e, hB, hL⟩ := h2 h; ⟨B, m, e, hB, hL.later hb⟩, fun h => let ⟨B, m, e, hB, hL, hR⟩ := h3 h; ⟨B, m, e, hB, hL.later hb, hR⟩⟩
  · intro f f' g g' w1 h
    have h8 := h 8 rfl
    have h9 := h 9 rfl
    have h11 := h 11 rfl
    simp only [h8.1, h8.2, h9.1, h9.2, h11.1]
    exact id
  · exact ⟨(Below.refl _ _).drew, by simp, by simp⟩
  · rintro f g w1 ⟨h1, h2, h3⟩ Dn
    have A0 := A0.below h1 (by rw [hz0]; omega)
    have A1 := A1.below h1 (by rw [hz0]; omega)
    have A2 := A2.below h1 (by rw [hz0]; omega)
    have a0 := A0.cell (j := 0) (by omega)
    have a1 := A0.cell (j := 1) (by omega)
    have a2 := A0.cell (j := 2) (by omega)
    have a3 := A0.cell (j := 3) (by omega)
    have b0 := A1.cell (j := 0) (by omega)
    have b1 := A1.cell (j := 1) (by omega)
    have b2 := A1.cell (j := 2) (by omega)
    have b3 := A1.cell (j := 3) (by omega)
    have n0 := A2.cell (j := 0) (by omega)
    have n1 := A2.cell (j := 1) (by omega)
    have n2 := A2.cell (j := 2) (by omega)
    have n3 := A2.cell (j := 3) (by omega)
    have put := True.intro
    refine GW.known _ rfl (fun hd hf => ?_) ?_
    · go_wp2
      exact ⟨rfl, rfl, Below.refl _ _⟩
    simp only [Act.put, List.setIfInBounds_toArray, List.set_cons_succ, List.set_cons_zero]
    refine GW.known _ rfl (fun hd hf => ?_) ?_
    · go_wp2
      exact ⟨rfl, rfl, Below.refl _ _⟩
    simp only [Act.put, List.setIfInBounds_toArray, List.set_cons_succ, List.set_cons_zero]
    refine GW.known _ rfl (fun hd hf => ?_) ?_
    · go_wp2_with fail
      refine (SS _).mono ?_
      rintro e w2 ⟨rfl, hb⟩
      go_wp2
      exact ⟨rfl, rfl, hb⟩
    simp only [Act.put, List.setIfInBounds_toArray, List.set_cons_succ, List.set_cons_zero]
    refine GW.known _ rfl (fun hd hf => ?_) ?_
    · go_wp2
      exact ⟨rfl, rfl, Below.refl _ _⟩
    simp only [Act.put, List.setIfInBounds_toArray, List.set_cons_succ, List.set_cons_zero]
    refine GW.known _ rfl (fun hd hf => ?_) ?_
    · go_wp2_with fail
      refine (DD _).mono ?_
      rintro e w2 ⟨rfl, hb⟩
      go_wp2
      exact ⟨rfl, rfl, hb⟩
    simp only [Act.put, List.setIfInBounds_toArray, List.set_cons_succ, List.set_cons_zero]
    refine GW.known _ rfl (fun hd hf => ?_) ?_
    · go_wp2
      exact ⟨rfl, rfl, Below.refl _ _⟩
    simp only [Act.put, List.setIfInBounds_toArray, List.set_cons_succ, List.set_cons_zero]
    refine GW.known _ rfl (fun hd hf => ?_) ?_
    · go_wp2
      exact ⟨rfl, rfl, Below.refl _ _⟩
    simp only [Act.put, List.setIfInBounds_toArray, List.set_cons_succ, List.set_cons_zero]
    refine GW.known _ rfl (fun hd hf => ?_) ?_
    · go_wp2
      exact ⟨rfl, rfl, Below.refl _ _⟩
    simp only [Act.put, List.setIfInBounds_toArray, List.set_cons_succ, List.set_cons_zero]
    refine GW.open rfl (fun hd hf => ?_) ?_
    · go_wp2
      exact ⟨rfl, h1.alloc h1.size _, fun _ => ⟨_, fun _ => 0, rfl, h1.size, Limbs.new8 _ _⟩, fun h => let ⟨B, m, e, hB, hL, hR⟩ := h3 h; ⟨B, m, e, hB, hL.alloc _, hR⟩⟩
    simp only [Act.put, List.setIfInBounds_toArray, List.set_cons_succ, List.set_cons_zero]
    refine GW.open rfl (fun hd hf => ?_) ?_
    · go_wp2
      have f11 : f 11 = true → False := fun h => by
        have := Dn 11 h 9 (by decide)
        rw [hf] at this; cases this
      exact ⟨rfl, h1.alloc h1.size _, fun h => let ⟨B, m, e, hB, hL⟩ := h2 h; ⟨B, m, e, hB, hL.alloc _⟩, fun _ => ⟨_, fun _ => 0, rfl, h1.size, Limbs.new4 _ _, fun h => (f11 h).elim⟩⟩
    simp only [Act.put, List.setIfInBounds_toArray, List.set_cons_succ, List.set_cons_zero]
    refine GW.open rfl (fun hd hf => ?_) ?_
    · obtain ⟨B8, m8, e8, hB8, L8⟩ := h2 (hd 8 (by decide))
      obtain ⟨B9, m9, e9, hB9, L9, R9⟩ := h3 (hd 9 (by decide))
      have f11 : f 11 = true → False := fun h => by
        have := Dn 11 h 10 (by decide)
        rw [hf] at this; cases this
      have hne := L9.ne_of_size L8 (by decide)
      rw [e8]
      have c0 := L8.cell (j := 0) (by omega)
      have z0 := L8.frozen 0
      have c1 := L8.cell (j := 1) (by omega)
      have z1 := L8.frozen 1
      have c2 := L8.cell (j := 2) (by omega)
      have z2 := L8.frozen 2
      have c3 := L8.cell (j := 3) (by omega)
      have z3 := L8.frozen 3
      have c4 := L8.cell (j := 4) (by omega)
      have z4 := L8.frozen 4
      have c5 := L8.cell (j := 5) (by omega)
      have z5 := L8.frozen 5
      have c6 := L8.cell (j := 6) (by omega)
      have z6 := L8.frozen 6
      have c7 := L8.cell (j := 7) (by omega)
      have z7 := L8.frozen 7
      go_wp2
      refine ⟨rfl, ((((((((h1.setCell (p := ⟨B8, 0, none⟩) hB8 (.int .u64 (q 0))).setCell (p := ⟨B8, 1, none⟩) hB8 (.int .u64 (q 1))).setCell (p := ⟨B8, 2, none⟩) hB8 (.int .u64 (q 2))).setCell (p := ⟨B8, 3, none⟩) hB8 (.int .u64 (q 3))).setCell (p := ⟨B8, 4, none⟩) hB8 (.int .u64 (q 4))).setCell (p := ⟨B8, 5, none⟩) hB8 (.int .u64 (q 5))).setCell (p := ⟨B8, 6, none⟩) hB8 (.int .u64 (q 6))).setCell (p := ⟨B8, 7, none⟩) hB8 (.int .u64 (q 7))), fun _ => ⟨B8, _, e8, hB8, ((((((((L8.set (k := 0) (by omega) (q 0)).set (k := 1) (by omega) (q 1)).set (k := 2) (by omega) (q 2)).set (k := 3) (by omega) (q 3)).set (k := 4) (by omega) (q 4)).set (k := 5) (by omega) (q 5)).set (k := 6) (by omega) (q 6)).set (k := 7) (by omega) (q 7))⟩, fun _ => ⟨B9, m9, e9, hB9, ((((((((L9.other (p := ⟨B8, 0, none⟩) hne (.int .u64 (q 0))).other (p := ⟨B8, 1, none⟩) hne (.int .u64 (q 1))).other (p := ⟨B8, 2, none⟩) hne (.int .u64 (q 2))).other (p := ⟨B8, 3, none⟩) hne (.int .u64 (q 3))).other (p := ⟨B8, 4, none⟩) hne (.int .u64 (q 4))).other (p := ⟨B8, 5, none⟩) hne (.int .u64 (q 5))).other (p := ⟨B8, 6, none⟩) hne (.int .u64 (q 6))).other (p := ⟨B8, 7, none⟩) hne (.int .u64 (q 7))), fun h => (f11 h).elim⟩⟩
    simp only [Act.put, List.setIfInBounds_toArray, List.set_cons_succ, List.set_cons_zero]
    refine GW.open rfl (fun hd hf => ?_) ?_
    · obtain ⟨B8, m8, e8, hB8, L8⟩ := h2 (hd 8 (by decide))
      obtain ⟨B9, m9, e9, hB9, L9, R9⟩ := h3 (hd 9 (by decide))
      have hne := (L9.ne_of_size L8 (by decide)).symm
      rw [e9]
      have c0 := L9.cell (j := 0) (by omega)
      have z0 := L9.frozen 0
      have c1 := L9.cell (j := 1) (by omega)
      have z1 := L9.frozen 1
      have c2 := L9.cell (j := 2) (by omega)
      have z2 := L9.frozen 2
      have c3 := L9.cell (j := 3) (by omega)
      have z3 := L9.frozen 3
      go_wp2
      refine ⟨rfl, ((((h1.setCell (p := ⟨B9, 0, none⟩) hB9 (.int .u64 (lim R 0))).setCell (p := ⟨B9, 1, none⟩) hB9 (.int .u64 (lim R 1))).setCell (p := ⟨B9, 2, none⟩) hB9 (.int .u64 (lim R 2))).setCell (p := ⟨B9, 3, none⟩) hB9 (.int .u64 (lim R 3))), fun _ => ⟨B8, m8, e8, hB8, ((((L8.other (p := ⟨B9, 0, none⟩) hne (.int .u64 (lim R 0))).other (p := ⟨B9, 1, none⟩) hne (.int .u64 (lim R 1))).other (p := ⟨B9, 2, none⟩) hne (.int .u64 (lim R 2))).other (p := ⟨B9, 3, none⟩) hne (.int .u64 (lim R 3)))⟩, fun _ => ⟨B9, _, e9, hB9, ((((L9.set (k := 0) (by omega) (lim R 0)).set (k := 1) (by omega) (lim R 1)).set (k := 2) (by omega) (lim R 2)).set (k := 3) (by omega) (lim R 3)), fun _ j hj => ?_⟩⟩
      rcases (show j = 0 ∨ j = 1 ∨ j = 2 ∨ j = 3 by omega) with rfl | rfl | rfl | rfl <;> simp
    simp only [Act.put, List.setIfInBounds_toArray, List.set_cons_succ, List.set_cons_zero]
    refine GW.nil (fun hall => ?_)
    obtain ⟨B9, m9, e9, hB9, L9, R9⟩ := h3 (hall 9 (by omega))
    have L9 := (L9.congr (R9 (hall 11 (by omega)))).to4
    rw [e9]
    have A3 := A3.below h1 (by rw [hz0]; omega)
    have BB := B0.trans (h1.mono (by rw [hz0]; omega))
    clear h2 h3 Dn A0 A1 A2 a0 a1 a2 a3 b0 b1 b2 b3 n0 n1 n2 n3 DD SS hall R9 put
    have c0 := L9.cell (j := 0) (by omega)
    have d0 := A3.cell (j := 0) (by omega)
    have z0 := A3.frozen 0
    have c1 := L9.cell (j := 1) (by omega)
    have d1 := A3.cell (j := 1) (by omega)
    have z1 := A3.frozen 1
    have c2 := L9.cell (j := 2) (by omega)
    have d2 := A3.cell (j := 2) (by omega)
    have z2 := A3.frozen 2
    have c3 := L9.cell (j := 3) (by omega)
    have d3 := A3.cell (j := 3) (by omega)
    have z3 := A3.frozen 3
    have HA := Lib.hid A3
    clear A3 L9
    go_wp2
    refine bodyPost_ret (results_word rfl rfl (HA.out.store (lim R))) rfl ⟨rfl, ?_⟩
    (repeat (first | exact BB | refine Below.setCell ?_ (by first | omega | (simp; done) | (simp; omega)) _ | refine Below.drew ?_))

set_option maxRecDepth 100000 in
set_option maxHeartbeats 4000000 in
theorem mulmod_ret (a b n : Nat) (ha : W256 a) (hb : W256 b) (hn : W256 n) : Ret Try.prog 15 #[wv a, wv b, wv n] (wv (if n = 0 then 0 else (a * b) % n)) := by
  intro w
  have hM : a * b < 18446744073709551616 ^ 8 := by unfold W256 at ha hb; exact Nat.lt_of_lt_of_le (Nat.mul_lt_mul'' ha hb) (by decide)
  obtain ⟨q, DD⟩ := divide8_calls (a * b) n hM hn
  have SS := product_any a b ha hb
  generalize (if n = 0 then 0 else (a * b) % n) = R at DD ⊢
  clear ha hb hn hM
  unfold wv at SS ⊢
  go_enter Try.func15, Try.ntmps15
  have A0 := ((Arr4.mk4' w 24 (lim a)).alloc (.cells #[.int .u64 (lim b 0), .int .u64 (lim b 1), .int .u64 (lim b 2), .int .u64 (lim b 3)] 24)).alloc (.cells #[.int .u64 (lim n 0), .int .u64 (lim n 1), .int .u64 (lim n 2), .int .u64 (lim n 3)] 24) |>.alloc (.cells #[.int .u64 0, .int .u64 0, .int .u64 0, .int .u64 0] 24)
  have A1 := ((Arr4.mk4' (w.alloc (.cells #[.int .u64 (lim a 0), .int .u64 (lim a 1), .int .u64 (lim a 2), .int .u64 (lim a 3)] 24)) 24 (lim b)).alloc (.cells #[.int .u64 (lim n 0), .int .u64 (lim n 1), .int .u64 (lim n 2), .int .u64 (lim n 3)] 24)).alloc (.cells #[.int .u64 0, .int .u64 0, .int .u64 0, .int .u64 0] 24)
  have A2 := (Arr4.mk4' ((w.alloc (.cells #[.int .u64 (lim a 0), .int .u64 (lim a 1), .int .u64 (lim a 2), .int .u64 (lim a 3)] 24)).alloc (.cells #[.int .u64 (lim b 0), .int .u64 (lim b 1), .int .u64 (lim b 2), .int .u64 (lim b 3)] 24)) 24 (lim n)).alloc (.cells #[.int .u64 0, .int .u64 0, .int .u64 0, .int .u64 0] 24)
  have A3 := Arr4.mk0' (((w.alloc (.cells #[.int .u64 (lim a 0), .int .u64 (lim a 1), .int .u64 (lim a 2), .int .u64 (lim a 3)] 24)).alloc (.cells #[.int .u64 (lim b 0), .int .u64 (lim b 1), .int .u64 (lim b 2), .int .u64 (lim b 3)] 24)).alloc (.cells #[.int .u64 (lim n 0), .int .u64 (lim n 1), .int .u64 (lim n 2), .int .u64 (lim n 3)] 24)) 24
  have B0 := ((((Below.refl _ w).alloc (Nat.le_refl _) (.cells #[.int .u64 (lim a 0), .int .u64 (lim a 1), .int .u64 (lim a 2), .int .u64 (lim a 3)] 24)).alloc (by simp) (.cells #[.int .u64 (lim b 0), .int .u64 (lim b 1), .int .u64 (lim b 2), .int .u64 (lim b 3)] 24)).alloc (by simp; omega) (.cells #[.int .u64 (lim n 0), .int .u64 (lim n 1), .int .u64 (lim n 2), .int .u64 (lim n 3)] 24)).alloc (by simp; omega) (.cells #[.int .u64 0, .int .u64 0, .int .u64 0, .int .u64 0] 24)
  simp only [World.size_alloc] at A1 A2 A3
  go_wp2_with fail
  obtain ⟨W0, hW0⟩ : ∃ W0, ((((w.alloc (.cells #[.int .u64 (lim a 0), .int .u64 (lim a 1), .int .u64 (lim a 2), .int .u64 (lim a 3)] 24)).alloc (.cells #[.int .u64 (lim b 0), .int .u64 (lim b 1), .int .u64 (lim b 2), .int .u64 (lim b 3)] 24)).alloc (.cells #[.int .u64 (lim n 0), .int .u64 (lim n 1), .int .u64 (lim n 2), .int .u64 (lim n 3)] 24)).alloc (.cells #[.int .u64 0, .int .u64 0, .int .u64 0, .int .u64 0] 24)) = W0 := ⟨_, rfl⟩
  have hz0 : W0.heap.size = w.heap.size + 1 + 1 + 1 + 1 := by rw [← hW0]; simp
  rw [hW0] at A0 A1 A2 A3 B0 ⊢
  clear hW0
  refine wp_region_ghost [some (.agg #[.int .u64 (lim a 0), .int .u64 (lim a 1), .int .u64 (lim a 2), .int .u64 (lim a 3)]), some (.agg #[.int .u64 (lim b 0), .int .u64 (lim b 1), .int .u64 (lim b 2), .int .u64 (lim b 3)]), some (.agg #[.int .u64 (limN (a * b) 0 : Int), .int .u64 (limN (a * b) 1 : Int), .int .u64 (limN (a * b) 2 : Int), .int .u64 (limN (a * b) 3 : Int), .int .u64 (limN (a * b) 4 : Int), .int .u64 (limN (a * b) 5 : Int), .int .u64 (limN (a * b) 6 : Int), .int .u64 (limN (a * b) 7 : Int)]), some (.agg #[.int .u64 (lim n 0), .int .u64 (lim n 1), .int .u64 (lim n 2), .int .u64 (lim n 3)]), some (.tuple #[.agg #[.int .u64 (q 0), .int .u64 (q 1), .int .u64 (q 2), .int .u64 (q 3), .int .u64 (q 4), .int .u64 (q 5), .int .u64 (q 6), .int .u64 (q 7)], .agg #[.int .u64 (lim R 0), .int .u64 (lim R 1), .int .u64 (lim R 2), .int .u64 (lim R 3)]]), some (.tuple #[.agg #[.int .u64 (q 0), .int .u64 (q 1), .int .u64 (q 2), .int .u64 (q 3), .int .u64 (q 4), .int .u64 (q 5), .int .u64 (q 6), .int .u64 (q 7)], .agg #[.int .u64 (lim R 0), .int .u64 (lim R 1), .int .u64 (lim R 2), .int .u64 (lim R 3)]]), some (.agg #[.int .u64 (q 0), .int .u64 (q 1), .int .u64 (q 2), .int .u64 (q 3), .int .u64 (q 4), .int .u64 (q 5), .int .u64 (q 6), .int .u64 (q 7)]), some (.agg #[.int .u64 (lim R 0), .int .u64 (lim R 1), .int .u64 (lim R 2), .int .u64 (lim R 3)]), none, none, none, none] [[], [], [0, 1], [], [0, 1, 2, 3], [0, 1, 2, 3, 4], [0, 1, 2, 3, 4, 5], [0, 1, 2, 3, 4, 5], [], [], [0, 1, 2, 3, 4, 5, 6, 8, 9], [0, 1, 2, 3, 4, 5, 6, 7, 8, 9, 10]]
    (fun f g w' => Below W0.heap.size W0 w' ∧ (f 8 = true → ∃ B m, g 8 = .pointer (some ⟨B, 0, none⟩) ∧ W0.heap.size ≤ B ∧ Limbs w' B 43 8 m) ∧ (f 9 = true → ∃ B m, g 9 = .pointer (some ⟨B, 0, none⟩) ∧ W0.heap.size ≤ B ∧ Limbs w' B 24 4 m ∧ (f 11 = true → ∀ j, j < 4 → m j = lim R j)))
    (by kernel_rfl) (by kernel_rfl) (by kernel_rfl) ?_ ?_ ?_ ?_
  · rintro f g w1 w2 ⟨h1, h2, h3⟩ hb
    exact ⟨h1.trans (hb.mono h1.size), fun h => let ⟨B, m, e, hB, hL⟩ := h2 h; ⟨B, m, e, hB, hL.later hb⟩, fun h => let ⟨B, m, e, hB, hL, hR⟩ := h3 h; ⟨B, m, e, hB, hL.later hb, hR⟩⟩
  · intro f f' g g' w1 h
    have h8 := h 8 rfl
    have h9 := h 9 rfl
    have h11 := h 11 rfl
    simp only [h8.1, h8.2, h9.1, h9.2, h11.1]
    exact id
  · exact ⟨(Below.refl _ _).drew, by simp, by simp⟩
  · rintro f g w1 ⟨h1, h2, h3⟩ Dn
    have A0 := A0.below h1 (by rw [hz0]; omega)
    have A1 := A1.below h1 (by rw [hz0]; omega)
    have A2 := A2.below h1 (by rw [hz0]; omega)
    have a0 := A0.cell (j := 0) (by omega)
    have a1 := A0.cell (j := 1) (by omega)
    have a2 := A0.cell (j := 2) (by omega)
    have a3 := A0.cell (j := 3) (by omega)
    have b0 := A1.cell (j := 0) (by omega)
    have b1 := A1.cell (j := 1) (by omega)
    have b2 := A1.cell (j := 2) (by omega)
    have b3 := A1.cell (j := 3) (by omega)
    have n0 := A2.cell (j := 0) (by omega)
    have n1 := A2.cell (j := 1) (by omega)
    have n2 := A2.cell (j := 2) (by omega)
    have n3 := A2.cell (j := 3) (by omega)
    have put := True.intro
    refine GW.known _ rfl (fun hd hf => ?_) ?_
    · go_wp2
      exact ⟨rfl, rfl, Below.refl _ _⟩
    simp only [Act.put, List.setIfInBounds_toArray, List.set_cons_succ, List.set_cons_zero]
    refine GW.known _ rfl (fun hd hf => ?_) ?_
    · go_wp2
      exact ⟨rfl, rfl, Below.refl _ _⟩
    simp only [Act.put, List.setIfInBounds_toArray, List.set_cons_succ, List.set_cons_zero]
    refine GW.known _ rfl (fun hd hf => ?_) ?_
    · go_wp2_with fail
      refine (SS _).mono ?_
      rintro e w2 ⟨rfl, hb⟩
      go_wp2
      exact ⟨rfl, rfl, hb⟩
    simp only [Act.put, List.setIfInBounds_toArray, List.set_cons_succ, List.set_cons_zero]
    refine GW.known _ rfl (fun hd hf => ?_) ?_
    · go_wp2
      exact ⟨rfl, rfl, Below.refl _ _⟩
    simp only [Act.put, List.setIfInBounds_toArray, List.set_cons_succ, List.set_cons_zero]
    refine GW.known _ rfl (fun hd hf => ?_) ?_
    · go_wp2_with fail
      refine (DD _).mono ?_
      rintro e w2 ⟨rfl, hb⟩
      go_wp2
      exact ⟨rfl, rfl, hb⟩
    simp only [Act.put, List.setIfInBounds_toArray, List.set_cons_succ, List.set_cons_zero]
    refine GW.known _ rfl (fun hd hf => ?_) ?_
    · go_wp2
      exact ⟨rfl, rfl, Below.refl _ _⟩
    simp only [Act.put, List.setIfInBounds_toArray, List.set_cons_succ, List.set_cons_zero]
    refine GW.known _ rfl (fun hd hf => ?_) ?_
    · go_wp2
      exact ⟨rfl, rfl, Below.refl _ _⟩
    simp only [Act.put, List.setIfInBounds_toArray, List.set_cons_succ, List.set_cons_zero]
    refine GW.known _ rfl (fun hd hf => ?_) ?_
    · go_wp2
      exact ⟨rfl, rfl, Below.refl _ _⟩
    simp only [Act.put, List.setIfInBounds_toArray, List.set_cons_succ, List.set_cons_zero]
    refine GW.open rfl (fun hd hf => ?_) ?_
    · go_wp2
      exact ⟨rfl, h1.alloc h1.size _, fun _ => ⟨_, fun _ => 0, rfl, h1.size, Limbs.new8 _ _⟩, fun h => let ⟨B, m, e, hB, hL, hR⟩ := h3 h; ⟨B, m, e, hB, hL.alloc _, hR⟩⟩
    simp only [Act.put, List.setIfInBounds_toArray, List.set_cons_succ, List.set_cons_zero]
    refine GW.open rfl (fun hd hf => ?_) ?_
    · go_wp2
      have f11 : f 11 = true → False := fun h => by
        have := Dn 11 h 9 (by decide)
        rw [hf] at this; cases this
      exact ⟨rfl, h1.alloc h1.size _, fun h => let ⟨B, m, e, hB, hL⟩ := h2 h; ⟨B, m, e, hB, hL.alloc _⟩, fun _ => ⟨_, fun _ => 0, rfl, h1.size, Limbs.new4 _ _, fun h => (f11 h).elim⟩⟩
    simp only [Act.put, List.setIfInBounds_toArray, List.set_cons_succ, List.set_cons_zero]
    refine GW.open rfl (fun hd hf => ?_) ?_
    · obtain ⟨B8, m8, e8, hB8, L8⟩ := h2 (hd 8 (by decide))
      obtain ⟨B9, m9, e9, hB9, L9, R9⟩ := h3 (hd 9 (by decide))
      have f11 : f 11 = true → False := fun h => by
        have := Dn 11 h 10 (by decide)
        rw [hf] at this; cases this
      have hne := L9.ne_of_size L8 (by decide)
      rw [e8]
      have c0 := L8.cell (j := 0) (by omega)
      have z0 := L8.frozen 0
      have c1 := L8.cell (j := 1) (by omega)
      have z1 := L8.frozen 1
      have c2 := L8.cell (j := 2) (by omega)
      have z2 := L8.frozen 2
      have c3 := L8.cell (j := 3) (by omega)
      have z3 := L8.frozen 3
      have c4 := L8.cell (j := 4) (by omega)
      have z4 := L8.frozen 4
      have c5 := L8.cell (j := 5) (by omega)
      have z5 := L8.frozen 5
      have c6 := L8.cell (j := 6) (by omega)
      have z6 := L8.frozen 6
      have c7 := L8.cell (j := 7) (by omega)
      have z7 := L8.frozen 7
      go_wp2
      refine ⟨rfl, ((((((((h1.setCell (p := ⟨B8, 0, none⟩) hB8 (.int .u64 (q 0))).setCell (p := ⟨B8, 1, none⟩) hB8 (.int .u64 (q 1))).setCell (p := ⟨B8, 2, none⟩) hB8 (.int .u64 (q 2))).setCell (p := ⟨B8, 3, none⟩) hB8 (.int .u64 (q 3))).setCell (p := ⟨B8, 4, none⟩) hB8 (.int .u64 (q 4))).setCell (p := ⟨B8, 5, none⟩) hB8 (.int .u64 (q 5))).setCell (p := ⟨B8, 6, none⟩) hB8 (.int .u64 (q 6))).setCell (p := ⟨B8, 7, none⟩) hB8 (.int .u64 (q 7))), fun _ => ⟨B8, _, e8, hB8, ((((((((L8.set (k := 0) (by omega) (q 0)).set (k := 1) (by omega) (q 1)).set (k := 2) (by omega) (q 2)).set (k := 3) (by omega) (q 3)).set (k := 4) (by omega) (q 4)).set (k := 5) (by omega) (q 5)).set (k := 6) (by omega) (q 6)).set (k := 7) (by omega) (q 7))⟩, fun _ => ⟨B9, m9, e9, hB9, ((((((((L9.other (p := ⟨B8, 0, none⟩) hne (.int .u64 (q 0))).other (p := ⟨B8, 1, none⟩) hne (.int .u64 (q 1))).other (p := ⟨B8, 2, none⟩) hne (.int .u64 (q 2))).other (p := ⟨B8, 3, none⟩) hne (.int .u64 (q 3))).other (p := ⟨B8, 4, none⟩) hne (.int .u64 (q 4))).other (p := ⟨B8, 5, none⟩) hne (.int .u64 (q 5))).other (p := ⟨B8, 6, none⟩) hne (.int .u64 (q 6))).other (p := ⟨B8, 7, none⟩) hne (.int .u64 (q 7))), fun h => (f11 h).elim⟩⟩
    simp only [Act.put, List.setIfInBounds_toArray, List.set_cons_succ, List.set_cons_zero]
    refine GW.open rfl (fun hd hf => ?_) ?_
    · obtain ⟨B8, m8, e8, hB8, L8⟩ := h2 (hd 8 (by decide))
      obtain ⟨B9, m9, e9, hB9, L9, R9⟩ := h3 (hd 9 (by decide))
      have hne := (L9.ne_of_size L8 (by decide)).symm
      rw [e9]
      have c0 := L9.cell (j := 0) (by omega)
      have z0 := L9.frozen 0
      have c1 := L9.cell (j := 1) (by omega)
      have z1 := L9.frozen 1
      have c2 := L9.cell (j := 2) (by omega)
      have z2 := L9.frozen 2
      have c3 := L9.cell (j := 3) (by omega)
      have z3 := L9.frozen 3
      go_wp2
      refine ⟨rfl, ((((h1.setCell (p := ⟨B9, 0, none⟩) hB9 (.int .u64 (lim R 0))).setCell (p := ⟨B9, 1, none⟩) hB9 (.int .u64 (lim R 1))).setCell (p := ⟨B9, 2, none⟩) hB9 (.int .u64 (lim R 2))).setCell (p := ⟨B9, 3, none⟩) hB9 (.int .u64 (lim R 3))), fun _ => ⟨B8, m8, e8, hB8, ((((L8.other (p := ⟨B9, 0, none⟩) hne (.int .u64 (lim R 0))).other (p := ⟨B9, 1, none⟩) hne (.int .u64 (lim R 1))).other (p := ⟨B9, 2, none⟩) hne (.int .u64 (lim R 2))).other (p := ⟨B9, 3, none⟩) hne (.int .u64 (lim R 3)))⟩, fun _ => ⟨B9, _, e9, hB9, ((((L9.set (k := 0) (by omega) (lim R 0)).set (k := 1) (by omega) (lim R 1)).set (k := 2) (by omega) (lim R 2)).set (k := 3) (by omega) (lim R 3)), fun _ j hj => ?_⟩⟩
      rcases (show j = 0 ∨ j = 1 ∨ j = 2 ∨ j = 3 by omega) with rfl | rfl | rfl | rfl <;> simp
    simp only [Act.put, List.setIfInBounds_toArray, List.set_cons_succ, List.set_cons_zero]
    refine GW.nil (fun hall => ?_)
    obtain ⟨B9, m9, e9, hB9, L9, R9⟩ := h3 (hall 9 (by omega))
    have L9 := (L9.congr (R9 (hall 11 (by omega)))).to4
    rw [e9]
    have A3 := A3.below h1 (by rw [hz0]; omega)
    have BB := B0.trans (h1.mono (by rw [hz0]; omega))
    clear h2 h3 Dn A0 A1 A2 a0 a1 a2 a3 b0 b1 b2 b3 n0 n1 n2 n3 DD SS hall R9 put
    have c0 := L9.cell (j := 0) (by omega)
    have d0 := A3.cell (j := 0) (by omega)
    have z0 := A3.frozen 0
    have c1 := L9.cell (j := 1) (by omega)
    have d1 := A3.cell (j := 1) (by omega)
    have z1 := A3.frozen 1
    have c2 := L9.cell (j := 2) (by omega)
    have d2 := A3.cell (j := 2) (by omega)
    have z2 := A3.frozen 2
    have c3 := L9.cell (j := 3) (by omega)
    have d3 := A3.cell (j := 3) (by omega)
    have z3 := A3.frozen 3
    have HA := Lib.hid A3
    clear A3 L9
    go_wp2
    refine bodyPost_ret (results_word rfl rfl (HA.out.store (lim R))) rfl ⟨rfl, ?_⟩
    (repeat (first | exact BB | refine Below.setCell ?_ (by first | omega | (simp; done) | (simp; omega)) _ | refine Below.drew ?_))
end Go.Proofs.Ytnlcllhjhbaigaa
