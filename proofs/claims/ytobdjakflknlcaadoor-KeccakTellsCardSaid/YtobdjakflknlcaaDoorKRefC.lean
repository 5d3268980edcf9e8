/- The reference's chi. -/
import Derived.Test.YtobdjakflknlcaaDoorKRefB
namespace Go.Proofs.YtobdjakflknlcaaDoor
open Go Go.RowKit Go.Shelf
attribute [local go_sem] Oper.semAt_some Grows wide_fn field0

set_option maxRecDepth 100000 in
set_option maxHeartbeats 4000000 in
theorem chi_calls (g cap : Nat) (A : Nat → Nat) (hA1 : ∀ j, A j ≤ 1) (w : World) (hA : CellsAt w g 1600 A) :
    Calls Tryd.prog 17 #[.slice (some ⟨g, 0, none⟩) 1600 cap] w fun e w' => e = .returned (.slice (some ⟨w.heap.size, 0, none⟩) 1600 1600) ∧ Has w' w.heap.size 3 (inC 1600 (chiN A)) ∧ Below w.heap.size w w' := by
  have hg := hA.lt (by omega)
  have hmx : Tryd.prog.follows .mixedOrders = true := by kernel_rfl
  have HA := Lib.hid hA
  clear hA
  have hmk := run_mkI w
  have LM := Has.new w 3 (inC 1600 fun _ => 0)
  have Q := (Below.refl w.heap.size w).alloc (Nat.le_refl _) (.cells (inC 1600 fun _ => 0) 3)
  rw [← doneN_zero (chiN A) lxy] at LM Q hmk
  obtain ⟨W1, hW1⟩ : ∃ W1, w.alloc (.cells (inC 1600 (doneN (chiN A) lxy 0)) 3) = W1 := ⟨_, rfl⟩
  rw [hW1] at hmk LM Q
  clear hW1
  go_enter Tryd.func17, Tryd.ntmps17
  go_wp2_with fail
  clear hmk
  go_loopw [4] (fun i wr => ∃ x : Nat, x ≤ 5 ∧ i = .int .i64 (x : Int) ∧ Has wr w.heap.size 3 (inC 1600 (doneN (chiN A) lxy (x * 320))) ∧ Below w.heap.size w wr) (fun i _ => 5 - (intOf i).toNat)
  case atStart => exact ⟨0, by omega, rfl, LM, Q⟩
  case round =>
    clear LM Q
    obtain ⟨x, hx, rfl, L, Q⟩ := hrel
    by_cases hx5 : x < 5
    · have hxI : (x : Int) < 5 := by omega
      have hx0 : (0 : Int) ≤ (x : Int) := by omega
      go_wp2_with fail
      go_loopw [5] (fun i wr => ∃ y : Nat, y ≤ 5 ∧ i = .int .i64 (y : Int) ∧ Has wr w.heap.size 3 (inC 1600 (doneN (chiN A) lxy ((x * 5 + y) * 64))) ∧ Below w.heap.size w wr) (fun i _ => 5 - (intOf i).toNat)
      case atStart => exact ⟨0, by omega, rfl, by rw [show (x * 5 + 0) * 64 = x * 320 by omega]; exact L, Q⟩
      case round =>
        clear L Q
        obtain ⟨y, hy, rfl, L, Q⟩ := hrel
        by_cases hy5 : y < 5
        · have hyI : (y : Int) < 5 := by omega
          have hy0 : (0 : Int) ≤ (y : Int) := by omega
          go_wp2_with fail
          go_loopw [6] (fun i wr => ∃ z : Nat, z ≤ 64 ∧ i = .int .i64 (z : Int) ∧ Has wr w.heap.size 3 (inC 1600 (doneN (chiN A) lxy ((x * 5 + y) * 64 + z))) ∧ Below w.heap.size w wr) (fun i _ => 64 - (intOf i).toNat)
          case atStart => exact ⟨0, by omega, rfl, L, Q⟩
          case round =>
            clear L Q
            obtain ⟨z, hz, rfl, L, Q⟩ := hrel
            by_cases hz6 : z < 64
            · have hzI : (z : Int) < 64 := by omega
              have hz0 : (0 : Int) ≤ (z : Int) := by omega
              have hp : 64 * (5 * y + x) + z < 1600 := by omega
              have HS := Lib.hid (doneN_set (chiN A) lxy 1600 ((x * 5 + y) * 64 + z) (64 * (5 * y + x) + z) (lxy_at x y z hx5 hy5 hz6) (fun j hj h => lxy_inj x y z j hx5 hy5 hz6 hj h))
              have HV := Lib.hid (chiN_at A x y z hx5 hy5 hz6)
              have AP := Lib.hid (at_nat (x : Int) (y : Int) (z : Int) (64 * (5 * y + x) + z) (by omega) (by omega) (by omega) (by unfold atN; omega))
              have hq5 : (x + 1) % 5 < 5 := Nat.mod_lt _ (by omega)
              have hr5 : (x + 2) % 5 < 5 := Nat.mod_lt _ (by omega)
              have hq1 : 64 * (5 * y + (x + 1) % 5) + z < 1600 := by omega
              have hr1 : 64 * (5 * y + (x + 2) % 5) + z < 1600 := by omega
              have AQ := Lib.hid (at_nat ((x : Int) + 1) (y : Int) (z : Int) (64 * (5 * y + (x + 1) % 5) + z) (by omega) (by omega) (by omega) (by unfold atN; omega))
              have AR := Lib.hid (at_nat ((x : Int) + 2) (y : Int) (z : Int) (64 * (5 * y + (x + 2) % 5) + z) (by omega) (by omega) (by omega) (by unfold atN; omega))
              generalize 64 * (5 * y + (x + 1) % 5) + z = q at *
              generalize 64 * (5 * y + (x + 2) % 5) + z = r at *
              have ka : ∀ X : Ext wr, X.w.cell? ⟨g, 64 * (5 * y + x) + z, none⟩ = some (.int .i64 ((A (64 * (5 * y + x) + z) : Nat) : Int)) := fun X => ((Q.trans (X.below.mono Q.size)).cell (p := ⟨g, _, none⟩) hg).trans (HA.out _ hp)
              have kq : ∀ X : Ext wr, X.w.cell? ⟨g, q, none⟩ = some (.int .i64 ((A q : Nat) : Int)) := fun X => ((Q.trans (X.below.mono Q.size)).cell (p := ⟨g, _, none⟩) hg).trans (HA.out _ hq1)
              have kr : ∀ X : Ext wr, X.w.cell? ⟨g, r, none⟩ = some (.int .i64 ((A r : Nat) : Int)) := fun X => ((Q.trans (X.below.mono Q.size)).cell (p := ⟨g, _, none⟩) hg).trans (HA.out _ hr1)
              have a0 : A (64 * (5 * y + x) + z) ≤ 1 := hA1 _
              have a1 : A q ≤ 1 := hA1 _
              have a2 : A r ≤ 1 := hA1 _
              have e1 : ((A q : Int) + 1).tmod 2 = (((A q + 1) % 2 : Nat) : Int) := by rw [Int.tmod_eq_emod_of_nonneg (by omega)]; omega
              have hm : (A q + 1) % 2 ≤ 1 := by omega
              have hmm : (A q + 1) % 2 * A r ≤ 1 := by have := Nat.mul_le_mul hm a2; omega
              have e2 : (((A q + 1) % 2 : Nat) : Int) * (A r : Int) = (((A q + 1) % 2 * A r : Nat) : Int) := by rw [Int.natCast_mul]
              have e3 : ((A (64 * (5 * y + x) + z) : Int) + (((A q + 1) % 2 * A r : Nat) : Int)).tmod 2 = (((A (64 * (5 * y + x) + z) + (A q + 1) % 2 * A r) % 2 : Nat) : Int) := by rw [Int.tmod_eq_emod_of_nonneg (by omega)]; omega
              rw [HV.out] at HS
              have HLT := Lib.hid hz6
              have HL := Lib.hid L
              have HQ := Lib.hid Q
              clear L Q hx hy hz hz6 HV
              generalize (A (64 * (5 * y + x) + z) + (A q + 1) % 2 * A r) % 2 = v at *
              generalize (A q + 1) % 2 * A r = mm at *
              generalize (A q + 1) % 2 = m at *
              generalize A q = aq at *
              generalize A r = ar at *
              generalize A (64 * (5 * y + x) + z) = ap at *
              generalize 64 * (5 * y + x) + z = p at *
              have hpI : (p : Int) < 1600 := by omega
              have hqI : (q : Int) < 1600 := by omega
              have hrI : (r : Int) < 1600 := by omega
              have kc : ∀ X : Ext wr, ∃ u, X.w.cell? ⟨w.heap.size, p, none⟩ = some u := fun X => ⟨_, (HL.out.later X.below).cell _ _ (inC_get 1600 _ p hp)⟩
              have b0 : (ap : Int) ≤ 1 := by omega
              have b1 : (aq : Int) ≤ 1 := by omega
              have b2 : (ar : Int) ≤ 1 := by omega
              have b3 : (m : Int) ≤ 1 := by omega
              have b4 : (mm : Int) ≤ 1 := by omega
              go_wp2_with fail
              refine wp_region_mix (C := Grows wr) [some true, some true, some true, some true, some true, some true, some true, some true, some true, some true, some true, some true, some true, some true, some true, some true, some true, some true, some true, some true, some true, some true, some true, some true, some true, some true, some true, some true, some true, some true, some true, some true, some true, some true, none] hmx (by kernel_rfl) (by kernel_rfl) (grows_refl wr) ?_
              simp only [headOf, tailOf]
              repeat (go_big_quiet_step (first | (with_reducible exact Ret.at AP.out _) | (with_reducible exact Ret.at AQ.out _) | (with_reducible exact Ret.at AR.out _)))
              refine wpQuiet_nil ?_
              rintro _ ⟨X, rfl⟩
              have L1 := (HL.out.later X.below).set p (.int .i64 ((v : Nat) : Int))
              rw [inC_set 1600 _ (doneN (chiN A) lxy ((x * 5 + y) * 64 + z + 1)) p _ HS.out] at L1
              have N1 := Lib.hid L1
              have N2 := Lib.hid ((HQ.out.trans (X.below.mono HQ.out.size)).setCell (p := ⟨w.heap.size, p, none⟩) (Nat.le_refl _) (.int .i64 ((v : Nat) : Int)))
              obtain ⟨u, kc'⟩ := kc X
              have kz := (HL.out.later X.below).frozen p
              clear L1 ka kq kr kc HL HQ HS
              go_wp2
              rw [calmPost_normal]
              go_wp2_with fail
              go_roundw
              case rel => exact ⟨z + 1, by have := HLT.out; omega, by simp, N1.out, N2.out⟩
              case measure => simp [intOf]; omega
            · obtain rfl : z = 64 := by omega
              simp only [Int.cast_ofNat_Int]
              have HL := Lib.hid L
              have HQ := Lib.hid Q
              clear L Q
              go_wp2_with fail
              go_roundw
              case rel => exact ⟨y + 1, by omega, by simp, by rw [show (x * 5 + (y + 1)) * 64 = (x * 5 + y) * 64 + 64 by omega]; exact HL.out, HQ.out⟩
              case measure => simp [intOf]; omega
        · obtain rfl : y = 5 := by omega
          simp only [Int.cast_ofNat_Int]
          have HL := Lib.hid L
          have HQ := Lib.hid Q
          clear L Q
          go_wp2_with fail
          go_roundw
          case rel => exact ⟨x + 1, by omega, by simp, by rw [show (x + 1) * 320 = (x * 5 + 5) * 64 by omega]; exact HL.out, HQ.out⟩
          case measure => simp [intOf]; omega
    · obtain rfl : x = 5 := by omega
      rw [doneN_all (chiN A) lxy 1600 (5 * 320) (fun j hj => lxy_lt j hj)] at L
      have HL := Lib.hid L
      have HQ := Lib.hid Q
      clear L Q
      go_wp2_with fail
      go_ret
      exact ⟨rfl, HL.out, HQ.out⟩
end Go.Proofs.YtobdjakflknlcaaDoor
