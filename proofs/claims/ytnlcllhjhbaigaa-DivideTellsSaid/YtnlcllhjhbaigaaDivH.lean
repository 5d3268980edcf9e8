/- A word added to the parts of a number of eight, from a place on. For every word and number. -/
import Derived.Test.YtnlcllhjhbaigaaDivG
import Derived.Test.YtnlcllhjhbaigaaDivEi
namespace Go.Proofs.Ytnlcllhjhbaigaa
open Go Go.RowKit Go.Shelf
attribute [local go_sem] Oper.semAt_some Grows wide_fn

/-- What is carried into part i of a sum. -/
def cyN (M A i : Nat) : Nat := (M % 18446744073709551616 ^ i + A % 18446744073709551616 ^ i) / 18446744073709551616 ^ i
theorem cyN_le (M A i : Nat) : cyN M A i ≤ 1 := by
  unfold cyN
  have hp : 0 < 18446744073709551616 ^ i := Nat.pow_pos (by decide)
  have h1 := Nat.mod_lt M hp
  have h2 := Nat.mod_lt A hp
  generalize 18446744073709551616 ^ i = P at *
  have : (M % P + A % P) / P < 2 := (Nat.div_lt_iff_lt_mul hp).2 (by omega)
  omega
theorem addc (M A i : Nat) : limN (M + A) i = (limN M i + limN A i + cyN M A i) % 18446744073709551616 ∧ cyN M A (i + 1) = (limN M i + limN A i + cyN M A i) / 18446744073709551616 := by
  unfold cyN limN
  have hp : 0 < 18446744073709551616 ^ i := Nat.pow_pos (by decide)
  constructor
  · have e : (M + A) / 18446744073709551616 ^ i = M / 18446744073709551616 ^ i + A / 18446744073709551616 ^ i + (M % 18446744073709551616 ^ i + A % 18446744073709551616 ^ i) / 18446744073709551616 ^ i := by
      generalize 18446744073709551616 ^ i = P at *
      have h1 := Nat.div_add_mod M P
      have h2 := Nat.div_add_mod A P
      have h3 : M + A = (M % P + A % P) + P * (M / P + A / P) := by rw [Nat.mul_add]; omega
      rw [h3, Nat.add_mul_div_left _ _ hp, Nat.add_comm]
    rw [e]
    omega
  · rw [Nat.pow_succ, Nat.mod_mul, Nat.mod_mul]
    generalize 18446744073709551616 ^ i = P at *
    rw [show M % P + P * (M / P % 18446744073709551616) + (A % P + P * (A / P % 18446744073709551616)) = (M % P + A % P) + P * (M / P % 18446744073709551616 + A / P % 18446744073709551616) by rw [Nat.mul_add]; omega,
      ← Nat.div_div_eq_div_mul, Nat.add_mul_div_left _ _ hp]
    congr 1
    omega
theorem limN_up (a p i : Nat) : limN (a * 18446744073709551616 ^ p) (p + i) = limN a i := by
  unfold limN
  rw [Nat.pow_add, ← Nat.div_div_eq_div_mul, Nat.mul_div_cancel _ (Nat.pow_pos (by decide))]
theorem limN_below (M a p i : Nat) (h : i < p) : limN (M + a * 18446744073709551616 ^ p) i = limN M i := by
  unfold limN
  have hp : 0 < 18446744073709551616 ^ i := Nat.pow_pos (by decide)
  rw [show a * 18446744073709551616 ^ p = 18446744073709551616 ^ i * (18446744073709551616 * (a * 18446744073709551616 ^ (p - i - 1))) by
    rw [show p = i + (1 + (p - i - 1)) by omega, Nat.pow_add, Nat.pow_add, Nat.pow_one, show i + (1 + (p - i - 1)) - i - 1 = p - i - 1 by omega, Nat.mul_left_comm, Nat.mul_left_comm a]]
  rw [Nat.add_mul_div_left _ _ hp, Nat.add_mul_mod_self_left]
theorem cyN_start (M a p : Nat) : cyN M (a * 18446744073709551616 ^ p) p = 0 := by
  unfold cyN
  rw [Nat.mul_mod_left, Nat.add_zero]
  exact Nat.div_eq_of_lt (Nat.mod_lt _ (Nat.pow_pos (by decide)))

set_option maxRecDepth 100000 in
set_option maxHeartbeats 8000000 in
theorem add8_any (B M a place : Nat) (ha : W256 a) (hpl : place ≤ 8) (w : World) (h : Limbs w B 43 8 (fun j => (limN M j : Int))) :
    Calls Try.prog 50 #[.pointer (some ⟨B, 0, none⟩), wv a, .int .i64 (place : Int)] w fun e w' => e = .returned (.tuple #[]) ∧ Limbs w' B 43 8 (fun j => (limN (M + a * 18446744073709551616 ^ place) j : Int)) ∧ w.grownBy w' (some B) := by
  have hN : a < 18446744073709551616 ^ 4 := ha
  have hBl := h.lt
  have A1 := (Arr4.mk4' w 24 (lim a)).alloc (.cells #[.int .u64 (lim a 0), .int .u64 (lim a 1), .int .u64 (lim a 2), .int .u64 (lim a 3)] 33)
  have A2 := Limbs.of4 (Arr4.mk4' (w.alloc (.cells #[.int .u64 (lim a 0), .int .u64 (lim a 1), .int .u64 (lim a 2), .int .u64 (lim a 3)] 24)) 33 (lim a))
  have X0 := (h.alloc (.cells #[.int .u64 (lim a 0), .int .u64 (lim a 1), .int .u64 (lim a 2), .int .u64 (lim a 3)] 24)).alloc (.cells #[.int .u64 (lim a 0), .int .u64 (lim a 1), .int .u64 (lim a 2), .int .u64 (lim a 3)] 33)
  have B0 := ((Below.refl _ w).alloc (Nat.le_refl _) (.cells #[.int .u64 (lim a 0), .int .u64 (lim a 1), .int .u64 (lim a 2), .int .u64 (lim a 3)] 24)).alloc (by simp) (.cells #[.int .u64 (lim a 0), .int .u64 (lim a 1), .int .u64 (lim a 2), .int .u64 (lim a 3)] 33)
  have G0 : w.grownBy ((w.alloc (.cells #[.int .u64 (lim a 0), .int .u64 (lim a 1), .int .u64 (lim a 2), .int .u64 (lim a 3)] 24)).alloc (.cells #[.int .u64 (lim a 0), .int .u64 (lim a 1), .int .u64 (lim a 2), .int .u64 (lim a 3)] 33)) (some B) := grown_of_below B0 _
  rw [World.size_alloc] at A2
  have HADD := Lib.hid (addc M (a * 18446744073709551616 ^ place))
  have HUP : Hid (∀ i, place ≤ i → limN (a * 18446744073709551616 ^ place) i = limN a (i - place)) := fun i hi => by
    have h := limN_up a place (i - place)
    rwa [show place + (i - place) = i by omega] at h
  have HLOW := Lib.hid (fun i => limN_below M a place i)
  have HC0 := Lib.hid (cyN_start M a place)
  have HCL := Lib.hid (cyN_le M (a * 18446744073709551616 ^ place))
  have HNZ := Lib.hid (fun i (hi : 4 ≤ i) => limN_zero a i 4 hN hi)
  obtain ⟨A, hA⟩ : ∃ A, A = a * 18446744073709551616 ^ place := ⟨_, rfl⟩
  rw [← hA] at HADD HUP HLOW HC0 HCL ⊢
  have hp0 : (0 : Int) ≤ (place : Int) := by omega
  have hp1 : (place : Int) ≤ 8 := by omega
  clear h hN hA ha B0
  unfold wv
  go_enter Try.func50, Try.ntmps50
  go_wp2
  obtain ⟨W0, hW0⟩ : ∃ W0, (w.alloc (.cells #[.int .u64 (lim a 0), .int .u64 (lim a 1), .int .u64 (lim a 2), .int .u64 (lim a 3)] 24)).alloc (.cells #[.int .u64 (lim a 0), .int .u64 (lim a 1), .int .u64 (lim a 2), .int .u64 (lim a 3)] 33) = W0 := ⟨_, rfl⟩
  rw [hW0] at A1 A2 X0 G0 ⊢
  clear hW0 A1
  have hne : w.heap.size + 1 ≠ B := by omega
  go_loopw [7, 8] (fun c q wr => ∃ i : Nat, place ≤ i ∧ i ≤ 8 ∧ q = .int .i64 (i : Int) ∧ c = .int .u64 (cyN M A i : Int) ∧ Limbs wr B 43 8 (fun j => if j < i then (limN (M + A) j : Int) else (limN M j : Int)) ∧ Limbs wr (w.heap.size + 1) 33 4 (lim a) ∧ w.grownBy wr (some B)) (fun _ q _ => 8 - (intOf q).toNat)
  case atStart =>
    refine ⟨place, Nat.le_refl _, hpl, rfl, by rw [HC0.out]; rfl, X0.congr (fun j hj => ?_), A2, G0⟩
    by_cases h1 : j < place
    · rw [if_pos h1, HLOW.out j h1]
    · rw [if_neg h1]
  case round =>
    obtain ⟨i, hpi, hi, rfl, rfl, xx, aa, G⟩ := hrel
    clear A2 X0 G0
    obtain ⟨y0, k0⟩ : ∃ y, wr.cell? ⟨B, 0, none⟩ = some (.int .u64 y) := ⟨_, xx.cell (j := 0) (by omega)⟩
    obtain ⟨y1, k1⟩ : ∃ y, wr.cell? ⟨B, 1, none⟩ = some (.int .u64 y) := ⟨_, xx.cell (j := 1) (by omega)⟩
    obtain ⟨y2, k2⟩ : ∃ y, wr.cell? ⟨B, 2, none⟩ = some (.int .u64 y) := ⟨_, xx.cell (j := 2) (by omega)⟩
    obtain ⟨y3, k3⟩ : ∃ y, wr.cell? ⟨B, 3, none⟩ = some (.int .u64 y) := ⟨_, xx.cell (j := 3) (by omega)⟩
    obtain ⟨y4, k4⟩ : ∃ y, wr.cell? ⟨B, 4, none⟩ = some (.int .u64 y) := ⟨_, xx.cell (j := 4) (by omega)⟩
    obtain ⟨y5, k5⟩ : ∃ y, wr.cell? ⟨B, 5, none⟩ = some (.int .u64 y) := ⟨_, xx.cell (j := 5) (by omega)⟩
    obtain ⟨y6, k6⟩ : ∃ y, wr.cell? ⟨B, 6, none⟩ = some (.int .u64 y) := ⟨_, xx.cell (j := 6) (by omega)⟩
    obtain ⟨y7, k7⟩ : ∃ y, wr.cell? ⟨B, 7, none⟩ = some (.int .u64 y) := ⟨_, xx.cell (j := 7) (by omega)⟩
    have hi0 : (0 : Int) ≤ (i : Int) := by omega
    by_cases hlt : i < 8
    · have hiI : (i : Int) < 8 := by omega
      obtain ⟨s1, s2⟩ := HADD.out i
      have hup := HUP.out i hpi
      have hc := HCL.out i
      have l1 := limN_lt M i
      have l2 := limN_lt a (i - place)
      have ci := xx.cell hlt
      rw [if_neg (by omega)] at ci
      have fi := xx.frozen i
      rw [hup] at s1 s2
      have u1 : U64 (limN M i : Int) := ⟨by omega, by omega⟩
      have u2 : U64 (limN a (i - place) : Int) := ⟨by omega, by omega⟩
      have ub : Bit (cyN M A i : Int) := ⟨by omega, by omega⟩
      have A1 : ∀ W, (callFunc 60 #[.int .u64 (limN M i : Int), .int .u64 (limN a (i - place) : Int), .int .u64 (cyN M A i : Int)]).run Try.prog W = .ok (.value (.tuple #[.int .u64 (limN (M + A) i : Int), .int .u64 (cyN M A (i + 1) : Int)])) W := fun W => by
        have h := run_addc _ _ _ u1 u2 ub W
        rw [h, s1, s2]
        congr 5
      have HX := Lib.hid xx
      have HAA := Lib.hid aa
      have HG := Lib.hid G
      have HI := Lib.hid (And.intro hpi hlt)
      have P1 : ∀ x : Ext wr, Calls Try.prog 59 #[.pointer (some ⟨w.heap.size + 1, 0, none⟩), .int .i64 ((i : Int) - (place : Int))] x.w fun e w'' => e = .returned (.int .u64 (limN a (i - place) : Int)) ∧ ∃ y : Ext wr, w'' = y.w := fun x => by
        have h := part4_any (w.heap.size + 1) (i - place) (lim a) (by omega) x.w (HAA.out.later x.below)
        have e : (if i - place < 4 then lim a (i - place) else 0) = (limN a (i - place) : Int) := by
          by_cases hp4 : i - place < 4
          · rw [if_pos hp4, limN_lim a _ hp4]
          · rw [if_neg hp4, HNZ.out _ (by omega)]; rfl
        rw [e, show ((i - place : Nat) : Int) = (i : Int) - (place : Int) by omega] at h
        exact h.mono fun e w' ⟨he, hw⟩ => ⟨he, x, hw.symm⟩
      have r1 : ∀ x : Ext wr, x.w.cell? ⟨B, i, none⟩ = some (.int .u64 (limN M i : Int)) := fun x => (x.cell (p := ⟨B, i, none⟩) HX.out.lt).trans ci
      have g1 : ∀ x : Ext wr, x.w.frozen? ⟨B, i, none⟩ = false := fun x => (x.frozen (p := ⟨B, i, none⟩) HX.out.lt).trans fi
      have dI0 : (0 : Int) ≤ (i : Int) - (place : Int) := by omega
      have dI1 : (i : Int) - (place : Int) ≤ 8 := by omega
      have hmx : Try.prog.follows .mixedOrders = true := by kernel_rfl
      clear hpi hi hlt s1 s2 hup hc l1 l2 ci fi u1 u2 ub xx aa G
      generalize hv1 : limN M i = v1 at *
      generalize hv2 : limN a (i - place) = v2 at *
      generalize hv3 : cyN M A i = v3 at *
      generalize hv4 : limN (M + A) i = v4 at *
      generalize hv5 : cyN M A (i + 1) = v5 at *
      have HV4 := Lib.hid hv4
      have HV5 := Lib.hid hv5
      clear hv1 hv2 hv3 hv4 hv5
      go_wp2
      clear k0 k1 k2 k3 k4 k5 k6 k7
      refine wp_region_mix (C := Grows wr) [some true, some true, some true, some true, some true, some true, some true, some true, some true, some true, some true, some true, some true, some true, some true, some true, some false, some true, some true, some true, none, none] hmx (by kernel_rfl) (by kernel_rfl) (grows_refl wr) ?_
      simp only [headOf, tailOf]
      repeat (go_big_quiet_step (with_reducible exact P1 _))
      refine wpQuiet_nil ?_
      rintro _ ⟨x, rfl⟩
      have N1 := Lib.hid ((HX.out.later x.below).set (k := i) HI.out.2 (v4 : Int))
      have N2 := Lib.hid ((HAA.out.later x.below).other (p := ⟨B, i, none⟩) hne (.int .u64 (v4 : Int)))
      have N3 := Lib.hid (grown_set (grown_ext HG.out x.below) (p := ⟨B, i, none⟩) (.inl rfl) (.int .u64 (v4 : Int)))
      go_wp2
      rw [calmPost_normal]
      clear r1 g1
      go_wp2
      go_roundw
      case rel =>
        refine ⟨i + 1, by have := HI.out.1; omega, HI.out.2, by simp, by rw [HV5.out], N1.out.congr (fun j _ => ?_), N2.out, N3.out⟩
        show (if j = i then (v4 : Int) else if j < i then (limN (M + A) j : Int) else (limN M j : Int)) = if j < i + 1 then (limN (M + A) j : Int) else (limN M j : Int)
        by_cases h1 : j = i
        · rw [if_pos h1, if_pos (by omega), h1, HV4.out]
        · rw [if_neg h1]
          by_cases h2 : j < i
          · rw [if_pos h2, if_pos (by omega)]
          · rw [if_neg h2, if_neg (by omega)]
      case measure => have := HI.out.2; simp [intOf]; omega
    · obtain rfl : i = 8 := by omega
      have N1 := Lib.hid (xx.congr (m' := fun j => (limN (M + A) j : Int)) (fun j hj => if_pos hj))
      have N2 := Lib.hid G
      clear hpi hi hlt xx aa G
      go_wp2
      go_end0
      exact ⟨rfl, N1.out, N2.out⟩
end Go.Proofs.Ytnlcllhjhbaigaa
