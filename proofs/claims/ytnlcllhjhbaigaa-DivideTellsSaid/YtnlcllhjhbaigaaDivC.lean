/- A number's bits from a place on, as a word. For every number and place. -/
import Derived.Test.YtnlcllhjhbaigaaDivB
import Derived.Laws.BitsAllLaws
namespace Go.Proofs.Ytnlcllhjhbaigaa
open Go Go.RowKit Go.Shelf
attribute [local go_sem] Oper.semAt_some Grows wide_fn

/-- The parts of a number. -/
def limN (N j : Nat) : Nat := N / 18446744073709551616 ^ j % 18446744073709551616
theorem limN_lt (N j : Nat) : limN N j < 18446744073709551616 := Nat.mod_lt _ (by decide)
theorem limN_lim (N j : Nat) (hj : j < 4) : lim N j = (limN N j : Int) := by
  rcases (show j = 0 ∨ j = 1 ∨ j = 2 ∨ j = 3 by omega) with rfl | rfl | rfl | rfl
  · show ((N % 18446744073709551616 : Nat) : Int) = _
    unfold limN
    rw [Nat.pow_zero, Nat.div_one]
  · rfl
  · rfl
  · rfl
theorem limN_zero (N j k : Nat) (hN : N < 18446744073709551616 ^ k) (hj : k ≤ j) : limN N j = 0 := by
  unfold limN
  rw [Nat.div_eq_of_lt (Nat.lt_of_lt_of_le hN (Nat.pow_le_pow_right (by decide) hj))]
theorem or_apart (a b r : Nat) (ha : a < 2 ^ r) : Nat.lor a (b * 2 ^ r) = a + b * 2 ^ r := by
  have h := Nat.two_pow_add_eq_or_of_lt ha b
  rw [Nat.mul_comm b, Nat.add_comm a]
  show a ||| 2 ^ r * b = 2 ^ r * b + a
  rw [Nat.or_comm]
  exact h.symm
theorem limN_shift (N f r j : Nat) (hr : r < 64) : Nat.lor (limN N (f + j) / 2 ^ r) (limN N (f + j + 1) * 2 ^ (64 - r) % 18446744073709551616) = limN (N / 2 ^ (64 * f + r)) j := by
  have h64 : (18446744073709551616 : Nat) = 2 ^ 64 := by decide
  have hsplit : (2 : Nat) ^ 64 = 2 ^ r * 2 ^ (64 - r) := by rw [← Nat.pow_add]; congr 1; omega
  unfold limN
  have e1 : N / 18446744073709551616 ^ (f + j + 1) = N / 18446744073709551616 ^ (f + j) / 18446744073709551616 := by rw [Nat.pow_succ, Nat.div_div_eq_div_mul]
  have e2 : N / 2 ^ (64 * f + r) / 18446744073709551616 ^ j = N / 18446744073709551616 ^ (f + j) / 2 ^ r := by
    rw [Nat.div_div_eq_div_mul, Nat.div_div_eq_div_mul]
    congr 1
    rw [h64, ← Nat.pow_mul, ← Nat.pow_mul, ← Nat.pow_add, ← Nat.pow_add]
    congr 1
    rw [Nat.mul_add]
    omega
  rw [e1, e2]
  generalize N / 18446744073709551616 ^ (f + j) = M
  rw [h64, hsplit]
  have hA : 0 < 2 ^ r := Nat.pow_pos (by decide)
  have hB : 0 < 2 ^ (64 - r) := Nat.pow_pos (by decide)
  have e3 : M / (2 ^ r * 2 ^ (64 - r)) % (2 ^ r * 2 ^ (64 - r)) * 2 ^ (64 - r) % (2 ^ r * 2 ^ (64 - r)) = M / (2 ^ r * 2 ^ (64 - r)) % 2 ^ r * 2 ^ (64 - r) := by
    rw [Nat.mul_mod_mul_right, Nat.mod_mul_right_mod]
  have e4 : M % (2 ^ r * 2 ^ (64 - r)) / 2 ^ r = M / 2 ^ r % 2 ^ (64 - r) := Nat.mod_mul_right_div_self M (2 ^ r) (2 ^ (64 - r))
  rw [e3, e4, or_apart _ _ _ (Nat.mod_lt _ hB)]
  have e5 : M / 2 ^ r % (2 ^ r * 2 ^ (64 - r)) = M / 2 ^ r % 2 ^ (64 - r) + 2 ^ (64 - r) * (M / 2 ^ r / 2 ^ (64 - r) % 2 ^ r) := by
    rw [Nat.mul_comm (2 ^ r), Nat.mod_mul]
  rw [e5, Nat.div_div_eq_div_mul, Nat.mul_comm (M / (2 ^ r * 2 ^ (64 - r)) % 2 ^ r)]
theorem limN_wmod (M j : Nat) (hj : j < 4) : limN (wmod M) j = limN M j := by
  unfold limN wmod
  rw [show (115792089237316195423570985008687907853269984665640564039457584007913129639936 : Nat) = 18446744073709551616 ^ j * 18446744073709551616 ^ (4 - j) by rw [← Nat.pow_add, show j + (4 - j) = 4 by omega]]
  rw [Nat.mod_mul_right_div_self]
  rw [show 18446744073709551616 ^ (4 - j) = 18446744073709551616 * 18446744073709551616 ^ (3 - j) by rw [← Nat.pow_succ', show 4 - j = (3 - j) + 1 by omega], Nat.mod_mul_right_mod]

set_option maxRecDepth 100000 in
set_option maxHeartbeats 4000000 in
theorem above4_any (B N place : Nat) (hN : N < 18446744073709551616 ^ 4) (hpl : place ≤ 320) (w : World) (h : Limbs w B 33 4 (fun j => (limN N j : Int))) :
    Calls Try.prog 42 #[.pointer (some ⟨B, 0, none⟩), .int .i64 (place : Int)] w fun e w' => e = .returned (wv (wmod (N / 2 ^ place))) ∧ Below w.heap.size w w' := by
  obtain ⟨f, r, rfl, hr⟩ : ∃ f r, place = 64 * f + r ∧ r < 64 := ⟨place / 64, place % 64, by omega, by omega⟩
  have hV : Hid (∀ j, j < 4 → Nat.lor (limN N (f + j) / 2 ^ r) (limN N (f + j + 1) * 2 ^ (64 - r) % 18446744073709551616) = limN (wmod (N / 2 ^ (64 * f + r))) j) := fun j hj => by rw [limN_wmod _ j hj]; exact limN_shift N f r j hr
  obtain ⟨V, hVe⟩ : ∃ V, V = wmod (N / 2 ^ (64 * f + r)) := ⟨_, rfl⟩
  rw [← hVe] at hV ⊢
  clear hVe
  have HP : Hid (∀ (W : World) (p : Nat), p < 1152921504606846976 → Limbs W B 33 4 (fun j => (limN N j : Int)) → Calls Try.prog 59 #[.pointer (some ⟨B, 0, none⟩), .int .i64 (p : Int)] W fun e w' => e = .returned (.int .u64 (limN N p : Int)) ∧ W = w') := fun W p hp hL => by
    have h := part4_any B p (fun j => (limN N j : Int)) hp W hL
    have e : (if p < 4 then (limN N p : Int) else 0) = (limN N p : Int) := by
      by_cases hp4 : p < 4
      · rw [if_pos hp4]
      · rw [if_neg hp4, limN_zero N p 4 hN (by omega)]; rfl
    rw [e] at h
    exact h
  have q1 : ((64 * f + r : Nat) : Int).tdiv 64 = (f : Int) := by rw [Int.tdiv_eq_ediv_of_nonneg (by omega)]; omega
  have q2 : ((64 * f + r : Nat) : Int).tmod 64 = (r : Int) := by rw [Int.tmod_eq_emod_of_nonneg (by omega)]; omega
  have hp0 : (0 : Int) ≤ ((64 * f + r : Nat) : Int) := by omega
  have hp1 : ((64 * f + r : Nat) : Int) ≤ 320 := by omega
  have hf0 : (0 : Int) ≤ (f : Int) := by omega
  have hf1 : (f : Int) ≤ 5 := by omega
  have hr0 : (0 : Int) ≤ (r : Int) := by omega
  have hr1 : (r : Int) < 64 := by omega
  have HR := Lib.hid hr
  have HF : Hid (f ≤ 5) := by show f ≤ 5; omega
  have A1 := (Arr4.mk0' w 24).alloc (.cells #[.int .u64 0, .int .u64 0, .int .u64 0, .int .u64 0] 24)
  have A2 := Arr4.mk0' (w.alloc (.cells #[.int .u64 0, .int .u64 0, .int .u64 0, .int .u64 0] 24)) 24
  have X0 := (h.alloc (.cells #[.int .u64 0, .int .u64 0, .int .u64 0, .int .u64 0] 24)).alloc (.cells #[.int .u64 0, .int .u64 0, .int .u64 0, .int .u64 0] 24)
  have B0 := ((Below.refl _ w).alloc (Nat.le_refl _) (.cells #[.int .u64 0, .int .u64 0, .int .u64 0, .int .u64 0] 24)).alloc (by simp) (.cells #[.int .u64 0, .int .u64 0, .int .u64 0, .int .u64 0] 24)
  have hBl := h.lt
  rw [World.size_alloc] at A2
  clear h hpl hN hr
  generalize ((64 * f + r : Nat) : Int) = pl at *
  go_enter Try.func42, Try.ntmps42
  go_wp2
  obtain ⟨W0, hW0⟩ : ∃ W0, (w.alloc (.cells #[.int .u64 0, .int .u64 0, .int .u64 0, .int .u64 0] 24)).alloc (.cells #[.int .u64 0, .int .u64 0, .int .u64 0, .int .u64 0] 24) = W0 := ⟨_, rfl⟩
  rw [hW0] at A1 A2 X0 B0 ⊢
  clear hW0
  go_loopw [14] (fun q wr => ∃ i : Nat, i ≤ 4 ∧ q = .int .i64 (i : Int) ∧ Arr4 wr w.heap.size 24 (fun _ => 0) ∧ Arr4 wr (w.heap.size + 1) 24 (fun j => if j < i then (limN V j : Int) else 0) ∧ Limbs wr B 33 4 (fun j => (limN N j : Int)) ∧ Below w.heap.size w wr) (fun q _ => 4 - (intOf q).toNat)
  case atStart => exact ⟨0, by omega, rfl, A1, A2.same4 rfl rfl rfl rfl, X0, B0⟩
  case round =>
    obtain ⟨i, hi, rfl, a1, a2, xx, hB⟩ := hrel
    clear A1 A2 X0 B0
    by_cases hlt : i < 4
    · have hiI : (i : Int) < 4 := by omega
      have hi0 : (0 : Int) ≤ (i : Int) := by omega
      have hv := hV.out i hlt
      have HA1 := Lib.hid a1
      have HA2 := Lib.hid a2
      have HX := Lib.hid xx
      have HB := Lib.hid hB
      have HI := Lib.hid hlt
      have hmx : Try.prog.follows .mixedOrders = true := by kernel_rfl
      have c2 := a2.cell hlt
      rw [if_neg (by omega)] at c2
      have f2 := a2.frozen i
      have ff := HF.out
      have P1 : ∀ x : Ext wr, Calls Try.prog 59 #[.pointer (some ⟨B, 0, none⟩), .int .i64 ((f : Int) + (i : Int))] x.w fun e w'' => e = .returned (.int .u64 (limN N (f + i) : Int)) ∧ ∃ y : Ext wr, w'' = y.w := fun x => by
        have h := HP.out x.w (f + i) (by omega) (HX.out.later x.below)
        rw [show ((f + i : Nat) : Int) = (f : Int) + (i : Int) by omega] at h
        exact h.mono fun e w' ⟨he, hw⟩ => ⟨he, x, hw.symm⟩
      have P2 : ∀ x : Ext wr, Calls Try.prog 59 #[.pointer (some ⟨B, 0, none⟩), .int .i64 ((f : Int) + (i : Int) + 1)] x.w fun e w'' => e = .returned (.int .u64 (limN N (f + i + 1) : Int)) ∧ ∃ y : Ext wr, w'' = y.w := fun x => by
        have h := HP.out x.w (f + i + 1) (by omega) (HX.out.later x.below)
        rw [show ((f + i + 1 : Nat) : Int) = (f : Int) + (i : Int) + 1 by omega] at h
        exact h.mono fun e w' ⟨he, hw⟩ => ⟨he, x, hw.symm⟩
      have r2 : ∀ x : Ext wr, x.w.cell? ⟨w.heap.size + 1, i, none⟩ = some (.int .u64 0) := fun x => (x.cell (p := ⟨_, i, none⟩) HA2.out.lt).trans c2
      have g2 : ∀ x : Ext wr, x.w.frozen? ⟨w.heap.size + 1, i, none⟩ = false := fun x => (x.frozen (p := ⟨_, i, none⟩) HA2.out.lt).trans f2
      have l1 := limN_lt N (f + i)
      have l2 := limN_lt N (f + i + 1)
      have l3 := limN_lt V i
      generalize limN N (f + i) = u1 at *
      generalize limN N (f + i + 1) = u2 at *
      generalize hue : limN V i = u3 at *
      have HU := Lib.hid hue
      have t1 : ((64 : Int) - (r : Int)).toNat = 64 - r := by omega
      have t2 : (0 : Int) ≤ (64 : Int) - (r : Int) := by omega
      have t3 : (64 : Int) - (r : Int) ≤ 64 := by omega
      have u10 : (0 : Int) ≤ (u1 : Int) := by omega
      have u11 : (u1 : Int) < 18446744073709551616 := by omega
      have u20 : (0 : Int) ≤ (u2 : Int) := by omega
      have u21 : (u2 : Int) < 18446744073709551616 := by omega
      have hor : bits .or .u64 ((u1 : Int) / 2 ^ r) (IntKind.u64.wrap ((u2 : Int) * 2 ^ (64 - r))) = (u3 : Int) := by
        have e1 : (u1 : Int) / 2 ^ r = ((u1 / 2 ^ r : Nat) : Int) := by rw [Int.natCast_ediv, Int.natCast_pow]; rfl
        have e2 : IntKind.u64.wrap ((u2 : Int) * 2 ^ (64 - r)) = ((u2 * 2 ^ (64 - r) % 18446744073709551616 : Nat) : Int) := by rw [IntKind.wrap_u64, Int.natCast_emod, Int.natCast_mul, Int.natCast_pow]; rfl
        rw [e1, e2]
        have b1 : u1 / 2 ^ r < 2 ^ 64 := Nat.lt_of_le_of_lt (Nat.div_le_self _ _) l1
        have b2 : u2 * 2 ^ (64 - r) % 18446744073709551616 < 2 ^ 64 := Nat.mod_lt _ (by decide)
        rw [← hv]
        generalize u1 / 2 ^ r = a at *
        generalize u2 * 2 ^ (64 - r) % 18446744073709551616 = b at *
        exact u64_or_nat a b b1 b2
      clear hi hlt a1 a2 xx hB c2 f2 ff l1 l2 l3 hue hv
      go_wp2
      refine wp_region_mix (C := Grows wr) [some true, some true, some true, some true, some true, some true, some true, some true, some true, some true, some true, some true, some true, some true, some true, some true, some true, some true, some true, none] hmx (by kernel_rfl) (by kernel_rfl) (grows_refl wr) ?_
      simp only [headOf, tailOf]
      repeat (go_big_quiet_step (first | (with_reducible exact P1 _) | (with_reducible exact P2 _)))
      refine wpQuiet_nil ?_
      rintro _ ⟨x, rfl⟩
      have N1 := Lib.hid ((HA1.out.later' x.below).other (p := ⟨w.heap.size + 1, i, none⟩) (by simp) (.int .u64 (u3 : Int)))
      have N2 := Lib.hid ((HA2.out.later' x.below).set HI.out (u3 : Int))
      have N3 := Lib.hid ((HX.out.later x.below).other (p := ⟨w.heap.size + 1, i, none⟩) (show B ≠ w.heap.size + 1 by omega) (.int .u64 (u3 : Int)))
      have N4 := Lib.hid ((HB.out.trans (x.below.mono HB.out.size)).setCell (p := ⟨w.heap.size + 1, i, none⟩) (by simp) (.int .u64 (u3 : Int)))
      go_wp2
      rw [calmPost_normal]
      go_wp2
      go_roundw
      case rel =>
        refine ⟨i + 1, HI.out, by simp, N1.out, ?_, N3.out, N4.out⟩
        have e : (fun j => if j < i + 1 then (limN V j : Int) else 0) = (fun j => if j = i then (u3 : Int) else if j < i then (limN V j : Int) else 0) := by
          funext j
          by_cases h1 : j = i
          · rw [if_pos h1, if_pos (by omega), h1, HU.out]
          · rw [if_neg h1]
            by_cases h2 : j < i
            · rw [if_pos h2, if_pos (by omega)]
            · rw [if_neg h2, if_neg (by omega)]
        rw [e]
        exact N2.out
      case measure => have := HI.out; simp [intOf]; omega
    · obtain rfl : i = 4 := by omega
      have a2 := a2.same4 (m' := lim V) (limN_lim V 0 (by omega)).symm (limN_lim V 1 (by omega)).symm (limN_lim V 2 (by omega)).symm (limN_lim V 3 (by omega)).symm
      have HA1 := Lib.hid a1
      have HB := Lib.hid hB
      have c0 := a2.cell (j := 0) (by omega)
      have c1 := a2.cell (j := 1) (by omega)
      have c2 := a2.cell (j := 2) (by omega)
      have c3 := a2.cell (j := 3) (by omega)
      have f0 := a1.frozen 0
      have f1 := a1.frozen 1
      have f2 := a1.frozen 2
      have f3 := a1.frozen 3
      have d0 := a1.cell (j := 0) (by omega)
      have d1 := a1.cell (j := 1) (by omega)
      have d2 := a1.cell (j := 2) (by omega)
      have d3 := a1.cell (j := 3) (by omega)
      clear hi hlt a1 a2 xx hB HP hV
      go_wp2
      refine bodyPost_ret (results_word rfl rfl (HA1.out.store (lim V))) rfl ⟨rfl, ?_⟩
      exact (((HB.out.setCell (p := ⟨w.heap.size, 0, none⟩) (by simp) _).setCell (p := ⟨w.heap.size, 1, none⟩) (by simp) _).setCell (p := ⟨w.heap.size, 2, none⟩) (by simp) _).setCell (p := ⟨w.heap.size, 3, none⟩) (by simp) _

set_option maxRecDepth 100000 in
set_option maxHeartbeats 4000000 in
theorem above8_any (B N place : Nat) (hN : N < 18446744073709551616 ^ 8) (hpl : place ≤ 576) (w : World) (h : Limbs w B 43 8 (fun j => (limN N j : Int))) :
    Calls Try.prog 48 #[.pointer (some ⟨B, 0, none⟩), .int .i64 (place : Int)] w fun e w' => e = .returned (wv (wmod (N / 2 ^ place))) ∧ Below w.heap.size w w' := by
  obtain ⟨f, r, rfl, hr⟩ : ∃ f r, place = 64 * f + r ∧ r < 64 := ⟨place / 64, place % 64, by omega, by omega⟩
  have hV : Hid (∀ j, j < 4 → Nat.lor (limN N (f + j) / 2 ^ r) (limN N (f + j + 1) * 2 ^ (64 - r) % 18446744073709551616) = limN (wmod (N / 2 ^ (64 * f + r))) j) := fun j hj => by rw [limN_wmod _ j hj]; exact limN_shift N f r j hr
  obtain ⟨V, hVe⟩ : ∃ V, V = wmod (N / 2 ^ (64 * f + r)) := ⟨_, rfl⟩
  rw [← hVe] at hV ⊢
  clear hVe
  have HP : Hid (∀ (W : World) (p : Nat), p < 1152921504606846976 → Limbs W B 43 8 (fun j => (limN N j : Int)) → Calls Try.prog 63 #[.pointer (some ⟨B, 0, none⟩), .int .i64 (p : Int)] W fun e w' => e = .returned (.int .u64 (limN N p : Int)) ∧ W = w') := fun W p hp hL => by
    have h := part8_any B p (fun j => (limN N j : Int)) hp W hL
    have e : (if p < 8 then (limN N p : Int) else 0) = (limN N p : Int) := by
      by_cases hp4 : p < 8
      · rw [if_pos hp4]
      · rw [if_neg hp4, limN_zero N p 8 hN (by omega)]; rfl
    rw [e] at h
    exact h
  have q1 : ((64 * f + r : Nat) : Int).tdiv 64 = (f : Int) := by rw [Int.tdiv_eq_ediv_of_nonneg (by omega)]; omega
  have q2 : ((64 * f + r : Nat) : Int).tmod 64 = (r : Int) := by rw [Int.tmod_eq_emod_of_nonneg (by omega)]; omega
  have hp0 : (0 : Int) ≤ ((64 * f + r : Nat) : Int) := by omega
  have hp1 : ((64 * f + r : Nat) : Int) ≤ 576 := by omega
  have hf0 : (0 : Int) ≤ (f : Int) := by omega
  have hf1 : (f : Int) ≤ 9 := by omega
  have hr0 : (0 : Int) ≤ (r : Int) := by omega
  have hr1 : (r : Int) < 64 := by omega
  have HR := Lib.hid hr
  have HF : Hid (f ≤ 9) := by show f ≤ 9; omega
  have A1 := (Arr4.mk0' w 24).alloc (.cells #[.int .u64 0, .int .u64 0, .int .u64 0, .int .u64 0] 24)
  have A2 := Arr4.mk0' (w.alloc (.cells #[.int .u64 0, .int .u64 0, .int .u64 0, .int .u64 0] 24)) 24
  have X0 := (h.alloc (.cells #[.int .u64 0, .int .u64 0, .int .u64 0, .int .u64 0] 24)).alloc (.cells #[.int .u64 0, .int .u64 0, .int .u64 0, .int .u64 0] 24)
  have B0 := ((Below.refl _ w).alloc (Nat.le_refl _) (.cells #[.int .u64 0, .int .u64 0, .int .u64 0, .int .u64 0] 24)).alloc (by simp) (.cells #[.int .u64 0, .int .u64 0, .int .u64 0, .int .u64 0] 24)
  have hBl := h.lt
  rw [World.size_alloc] at A2
  clear h hpl hN hr
  generalize ((64 * f + r : Nat) : Int) = pl at *
  go_enter Try.func48, Try.ntmps48
  go_wp2
  obtain ⟨W0, hW0⟩ : ∃ W0, (w.alloc (.cells #[.int .u64 0, .int .u64 0, .int .u64 0, .int .u64 0] 24)).alloc (.cells #[.int .u64 0, .int .u64 0, .int .u64 0, .int .u64 0] 24) = W0 := ⟨_, rfl⟩
  rw [hW0] at A1 A2 X0 B0 ⊢
  clear hW0
  go_loopw [14] (fun q wr => ∃ i : Nat, i ≤ 4 ∧ q = .int .i64 (i : Int) ∧ Arr4 wr w.heap.size 24 (fun _ => 0) ∧ Arr4 wr (w.heap.size + 1) 24 (fun j => if j < i then (limN V j : Int) else 0) ∧ Limbs wr B 43 8 (fun j => (limN N j : Int)) ∧ Below w.heap.size w wr) (fun q _ => 4 - (intOf q).toNat)
  case atStart => exact ⟨0, by omega, rfl, A1, A2.same4 rfl rfl rfl rfl, X0, B0⟩
  case round =>
    obtain ⟨i, hi, rfl, a1, a2, xx, hB⟩ := hrel
    clear A1 A2 X0 B0
    by_cases hlt : i < 4
    · have hiI : (i : Int) < 4 := by omega
      have hi0 : (0 : Int) ≤ (i : Int) := by omega
      have hv := hV.out i hlt
      have HA1 := Lib.hid a1
      have HA2 := Lib.hid a2
      have HX := Lib.hid xx
      have HB := Lib.hid hB
      have HI := Lib.hid hlt
      have hmx : Try.prog.follows .mixedOrders = true := by kernel_rfl
      have c2 := a2.cell hlt
      rw [if_neg (by omega)] at c2
      have f2 := a2.frozen i
      have ff := HF.out
      have P1 : ∀ x : Ext wr, Calls Try.prog 63 #[.pointer (some ⟨B, 0, none⟩), .int .i64 ((f : Int) + (i : Int))] x.w fun e w'' => e = .returned (.int .u64 (limN N (f + i) : Int)) ∧ ∃ y : Ext wr, w'' = y.w := fun x => by
        have h := HP.out x.w (f + i) (by omega) (HX.out.later x.below)
        rw [show ((f + i : Nat) : Int) = (f : Int) + (i : Int) by omega] at h
        exact h.mono fun e w' ⟨he, hw⟩ => ⟨he, x, hw.symm⟩
      have P2 : ∀ x : Ext wr, Calls Try.prog 63 #[.pointer (some ⟨B, 0, none⟩), .int .i64 ((f : Int) + (i : Int) + 1)] x.w fun e w'' => e = .returned (.int .u64 (limN N (f + i + 1) : Int)) ∧ ∃ y : Ext wr, w'' = y.w := fun x => by
        have h := HP.out x.w (f + i + 1) (by omega) (HX.out.later x.below)
        rw [show ((f + i + 1 : Nat) : Int) = (f : Int) + (i : Int) + 1 by omega] at h
        exact h.mono fun e w' ⟨he, hw⟩ => ⟨he, x, hw.symm⟩
      have r2 : ∀ x : Ext wr, x.w.cell? ⟨w.heap.size + 1, i, none⟩ = some (.int .u64 0) := fun x => (x.cell (p := ⟨_, i, none⟩) HA2.out.lt).trans c2
      have g2 : ∀ x : Ext wr, x.w.frozen? ⟨w.heap.size + 1, i, none⟩ = false := fun x => (x.frozen (p := ⟨_, i, none⟩) HA2.out.lt).trans f2
      have l1 := limN_lt N (f + i)
      have l2 := limN_lt N (f + i + 1)
      have l3 := limN_lt V i
      generalize limN N (f + i) = u1 at *
      generalize limN N (f + i + 1) = u2 at *
      generalize hue : limN V i = u3 at *
      have HU := Lib.hid hue
      have t1 : ((64 : Int) - (r : Int)).toNat = 64 - r := by omega
      have t2 : (0 : Int) ≤ (64 : Int) - (r : Int) := by omega
      have t3 : (64 : Int) - (r : Int) ≤ 64 := by omega
      have u10 : (0 : Int) ≤ (u1 : Int) := by omega
      have u11 : (u1 : Int) < 18446744073709551616 := by omega
      have u20 : (0 : Int) ≤ (u2 : Int) := by omega
      have u21 : (u2 : Int) < 18446744073709551616 := by omega
      have hor : bits .or .u64 ((u1 : Int) / 2 ^ r) (IntKind.u64.wrap ((u2 : Int) * 2 ^ (64 - r))) = (u3 : Int) := by
        have e1 : (u1 : Int) / 2 ^ r = ((u1 / 2 ^ r : Nat) : Int) := by rw [Int.natCast_ediv, Int.natCast_pow]; rfl
        have e2 : IntKind.u64.wrap ((u2 : Int) * 2 ^ (64 - r)) = ((u2 * 2 ^ (64 - r) % 18446744073709551616 : Nat) : Int) := by rw [IntKind.wrap_u64, Int.natCast_emod, Int.natCast_mul, Int.natCast_pow]; rfl
        rw [e1, e2]
        have b1 : u1 / 2 ^ r < 2 ^ 64 := Nat.lt_of_le_of_lt (Nat.div_le_self _ _) l1
        have b2 : u2 * 2 ^ (64 - r) % 18446744073709551616 < 2 ^ 64 := Nat.mod_lt _ (by decide)
        rw [← hv]
        generalize u1 / 2 ^ r = a at *
        generalize u2 * 2 ^ (64 - r) % 18446744073709551616 = b at *
        exact u64_or_nat a b b1 b2
      clear hi hlt a1 a2 xx hB c2 f2 ff l1 l2 l3 hue hv
      go_wp2
      refine wp_region_mix (C := Grows wr) [some true, some true, some true, some true, some true, some true, some true, some true, some true, some true, some true, some true, some true, some true, some true, some true, some true, some true, some true, none] hmx (by kernel_rfl) (by kernel_rfl) (grows_refl wr) ?_
      simp only [headOf, tailOf]
      repeat (go_big_quiet_step (first | (with_reducible exact P1 _) | (with_reducible exact P2 _)))
      refine wpQuiet_nil ?_
      rintro _ ⟨x, rfl⟩
      have N1 := Lib.hid ((HA1.out.later' x.below).other (p := ⟨w.heap.size + 1, i, none⟩) (by simp) (.int .u64 (u3 : Int)))
      have N2 := Lib.hid ((HA2.out.later' x.below).set HI.out (u3 : Int))
      have N3 := Lib.hid ((HX.out.later x.below).other (p := ⟨w.heap.size + 1, i, none⟩) (show B ≠ w.heap.size + 1 by omega) (.int .u64 (u3 : Int)))
      have N4 := Lib.hid ((HB.out.trans (x.below.mono HB.out.size)).setCell (p := ⟨w.heap.size + 1, i, none⟩) (by simp) (.int .u64 (u3 : Int)))
      go_wp2
      rw [calmPost_normal]
      go_wp2
      go_roundw
      case rel =>
        refine ⟨i + 1, HI.out, by simp, N1.out, ?_, N3.out, N4.out⟩
        have e : (fun j => if j < i + 1 then (limN V j : Int) else 0) = (fun j => if j = i then (u3 : Int) else if j < i then (limN V j : Int) else 0) := by
          funext j
          by_cases h1 : j = i
          · rw [if_pos h1, if_pos (by omega), h1, HU.out]
          · rw [if_neg h1]
            by_cases h2 : j < i
            · rw [if_pos h2, if_pos (by omega)]
            · rw [if_neg h2, if_neg (by omega)]
        rw [e]
        exact N2.out
      case measure => have := HI.out; simp [intOf]; omega
    · obtain rfl : i = 4 := by omega
      have a2 := a2.same4 (m' := lim V) (limN_lim V 0 (by omega)).symm (limN_lim V 1 (by omega)).symm (limN_lim V 2 (by omega)).symm (limN_lim V 3 (by omega)).symm
      have HA1 := Lib.hid a1
      have HB := Lib.hid hB
      have c0 := a2.cell (j := 0) (by omega)
      have c1 := a2.cell (j := 1) (by omega)
      have c2 := a2.cell (j := 2) (by omega)
      have c3 := a2.cell (j := 3) (by omega)
      have f0 := a1.frozen 0
      have f1 := a1.frozen 1
      have f2 := a1.frozen 2
      have f3 := a1.frozen 3
      have d0 := a1.cell (j := 0) (by omega)
      have d1 := a1.cell (j := 1) (by omega)
      have d2 := a1.cell (j := 2) (by omega)
      have d3 := a1.cell (j := 3) (by omega)
      clear hi hlt a1 a2 xx hB HP hV
      go_wp2
      refine bodyPost_ret (results_word rfl rfl (HA1.out.store (lim V))) rfl ⟨rfl, ?_⟩
      exact (((HB.out.setCell (p := ⟨w.heap.size, 0, none⟩) (by simp) _).setCell (p := ⟨w.heap.size, 1, none⟩) (by simp) _).setCell (p := ⟨w.heap.size, 2, none⟩) (by simp) _).setCell (p := ⟨w.heap.size, 3, none⟩) (by simp) _
end Go.Proofs.Ytnlcllhjhbaigaa
