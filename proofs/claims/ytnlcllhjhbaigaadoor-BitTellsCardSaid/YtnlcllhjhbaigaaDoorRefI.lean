/- The reference's word of bits. -/
import Derived.Test.YtnlcllhjhbaigaaDoorRefH
namespace Go.Proofs.YtnlcllhjhbaigaaDoor
open Go Go.RowKit
attribute [local go_sem] Oper.semAt_some Grows

set_option maxRecDepth 100000 in
set_option maxHeartbeats 4000000 in
theorem fromBits_any (N : Nat) (hN : W256 N) (g cap : Nat) (w : World) (hx : IntsAt w g 256 (fun j => (bt N j : Int))) :
    Calls Tryd.prog 48 #[.slice (some ⟨g, 0, none⟩) 256 cap] w fun e w' => e = .returned (wv N) ∧ Below w.heap.size w w' := by
  have A0 := Arr4.mk0' w 24
  have B0 := (Below.refl _ w).alloc (Nat.le_refl _) (.cells #[.int .u64 0, .int .u64 0, .int .u64 0, .int .u64 0] 24)
  have X0 := hx.alloc (.cells #[.int .u64 0, .int .u64 0, .int .u64 0, .int .u64 0] 24)
  have hgl := hx.lt
  have R0 := World.ownsRow_nil (w.alloc (.cells #[.int .u64 0, .int .u64 0, .int .u64 0, .int .u64 0] 24)) (w.heap.size + 1) 3 1
  have s0 : w.heap.size + 1 ≤ (w.alloc (.cells #[.int .u64 0, .int .u64 0, .int .u64 0, .int .u64 0] 24)).heap.size := by simp
  have HW := Lib.hid hN
  clear hx hN
  go_enter Tryd.func48, Tryd.ntmps48
  go_wp2
  obtain ⟨W0, hW0⟩ : ∃ W0, (w.alloc (.cells #[.int .u64 0, .int .u64 0, .int .u64 0, .int .u64 0] 24)) = W0 := ⟨_, rfl⟩
  rw [hW0] at A0 B0 X0 R0 s0 ⊢
  clear hW0
  go_loopw [3, 4] (fun t i wr => ∃ k : Nat, k ≤ 32 ∧ i = .int .i64 (k : Int) ∧ IntsAt wr g 256 (fun j => (bt N j : Int)) ∧ Arr4 wr w.heap.size 24 (fun _ => 0) ∧ wr.ownsRow (w.heap.size + 1) 3 1 t k (dgsV N k) ∧ Below w.heap.size w wr ∧ w.heap.size + 1 ≤ wr.heap.size) (fun _ i _ => 32 - (intOf i).toNat)
  case atStart => exact ⟨0, by omega, rfl, X0, A0, R0, B0, s0⟩
  case round =>
    obtain ⟨k, hk, rfl, xx, aw, hown, hB, hsz⟩ := hrel
    clear X0 A0 R0 B0 s0
    by_cases hlt : k < 32
    · have hkI : (k : Int) < 32 := by omega
      have hk0 : (0 : Int) ≤ (k : Int) := by omega
      have HV := Lib.hid (dgsV_succ N k)
      have HK := Lib.hid hlt
      have HX := Lib.hid xx
      have HA := Lib.hid aw
      have HO := Lib.hid hown
      have HB := Lib.hid hB
      have HZ := Lib.hid hsz
      clear hk hlt xx aw hown hB hsz
      obtain ⟨wo, rfl⟩ : ∃ wo : World, wo = wr := ⟨_, rfl⟩
      go_wp2
      go_loopw [5, 6] (fun n j wr => ∃ (r : Nat) (z : Int), j = .int .i64 z ∧ z = (r : Int) - 1 ∧ n = .int .i64 (hvN (dg N k) r : Int) ∧ Hid (r ≤ 8) ∧ wr = wo) (fun _ j _ => (intOf j + 1).toNat)
      case atStart => exact ⟨8, 7, rfl, by omega, by have := dg_lt N k; rw [show hvN (dg N k) 8 = 0 by unfold hvN; omega]; rfl, Nat.le_refl _, rfl⟩
      case round =>
        obtain ⟨r, z, rfl, hz, rfl, hr, rfl⟩ := hrel
        by_cases h0 : r = 0
        · subst h0
          rw [hvN_zero]
          have hdg := dg_lt N k
          have hz0 : ¬ 0 ≤ z := by omega
          have hb1 : (dg N k : Int) < 256 := by omega
          have hb0 : (0 : Int) ≤ (dg N k : Int) := by omega
          generalize (dg N k : Int) = b at *
          obtain ⟨i0, hi, hz0', hz1, hz2⟩ := info_parts infoI
          have hkc : k < 32 := HK.out
          clear hdg hr hz
          go_wp2_with (at_builtin; refine wpList_append_own _ rfl _ _ 44 rfl (w.heap.size + 1) 3 i0 (.int .i64 0) 1 8 Tryd.underlying44 hi hz0' hz1 hz2 rfl (by decide) _ _ _ rfl (HO.out.alloc _) ⟨wr.heap.size, 0, none⟩ 1 1 [.int .i64 b] rfl rfl (cell_one _ _ _) (by simp [Value.oneCell']) (by unfold maxLen; omega) (by omega) (by have := HZ.out; simp; omega) ?_; intro v' w3 hown' hgrow hnil)
          clear hi hz0' hz1 hz2
          go_wp2
          go_roundw
          case rel =>
            have hxs3 := hgrow.size
            have hzz := HZ.out
            refine ⟨k + 1, HK.out, by simp, ?_, ?_, ?_, ?_, by simp at hxs3; omega⟩
            · exact (HX.out.alloc _).kept hgrow (fun e => by have := (HO.out.alloc (.cells #[.int .i64 b] 3)).lt _ e.symm; omega)
            · exact (HA.out.alloc _).kept hgrow (fun e => by have := (HO.out.alloc (.cells #[.int .i64 b] 3)).lt _ e.symm; omega)
            · rw [HV.out]; exact hown'
            · exact (HB.out.alloc (by omega) _).grown hgrow (by simp; omega) (fun j e => by have := (HO.out.alloc (.cells #[.int .i64 b] 3)).lt j e; omega)
          case measure => have := HK.out; simp [intOf]; omega
        · obtain ⟨m, rfl⟩ : ∃ m, r = m + 1 := ⟨r - 1, by omega⟩
          have hm : z = (m : Int) := by omega
          subst hm
          have hm8 : m < 8 := by have := hr.out; omega
          have cb := HX.out.cell (j := 8 * k + m) (by have := HK.out; omega)
          have hs := hvN_succ (dg N k) m
          have hl := hvN_le (dg N k) m
          have hdg := dg_lt N k
          have hb : hvN (dg N k) m % 2 = bt N (8 * k + m) := bt_dg N k m hm8
          rw [hs]
          have HM8 := Lib.hid hm8
          generalize bt N (8 * k + m) = x at *
          generalize hyy : hvN (dg N k) m = y at *
          have e1 : (2 : Int) * ((y / 2 : Nat) : Int) + (x : Int) = (y : Int) := by omega
          have e0 : ((8 : Int) * (k : Int) + (m : Int)) = ((8 * k + m : Nat) : Int) := by omega
          have e2 : ((8 * k + m : Nat) : Int) < 256 := by omega
          have e3 : (0 : Int) ≤ ((8 * k + m : Nat) : Int) := by omega
          have y0 : (0 : Int) ≤ (y : Int) := by omega
          have y1 : (y : Int) < 256 := by omega
          have x0 : (0 : Int) ≤ (x : Int) := by omega
          have x1 : (x : Int) < 2 := by omega
          have y2 : (0 : Int) ≤ ((y / 2 : Nat) : Int) := by omega
          have y3 : ((y / 2 : Nat) : Int) < 128 := by omega
          have m0 : (0 : Int) ≤ (m : Int) := by omega
          have m1 : (m : Int) < 8 := by omega
          have HY : Hid (hvN (dg N k) m = y) := hyy
          generalize y / 2 = y' at *
          generalize hI : 8 * k + m = I at *
          clear hs hl hdg hb hr hz hm8 h0 hI hyy
          go_wp2
          refine ⟨⟨m, (m : Int) - 1, rfl, rfl, by rw [HY.out], by have := HM8.out; show m ≤ 8; omega, by trivial⟩, by simp [intOf]⟩
    · obtain rfl : k = 32 := by omega
      obtain ⟨g', cap', rfl⟩ := ownsRow_succ (k := 31) hown
      have hx := IntsAt.of_row (d := fun j => (dg N j : Int)) hown (fun j hj => by simp [dgsV, hj])
      have DD := fromDigits_any (cut32 (fun j => (dg N j : Int))) (cut32_range _ (fun j => by have := dg_lt N j; constructor <;> omega)) 32 g' cap' (by omega) (fun j hj => cut32_none _ j hj) wr (hx.2.congr (fun j hj => (if_pos hj).symm))
      rw [cut32_val, valI_word N HW.out, Int.toNat_natCast] at DD
      have HD := Lib.hid DD
      have HA := Lib.hid aw
      have HB := Lib.hid hB
      clear hk hlt hown xx hB hx hsz aw DD HW
      go_wp2_with fail
      refine (HD.out).mono ?_
      rintro e w4 ⟨rfl, q⟩
      have a3 := HA.out.later' q
      have HB := Lib.hid (HB.out.trans (q.mono HB.out.size))
      clear q HD HA
      have f0 := a3.frozen 0
      have f1 := a3.frozen 1
      have f2 := a3.frozen 2
      have f3 := a3.frozen 3
      have d0 := a3.cell (j := 0) (by omega)
      have d1 := a3.cell (j := 1) (by omega)
      have d2 := a3.cell (j := 2) (by omega)
      have d3 := a3.cell (j := 3) (by omega)
      have HA := Lib.hid a3
      clear a3
      unfold wv
      go_wp2
      refine bodyPost_ret (results_word rfl rfl (HA.out.store _)) rfl ⟨rfl, ?_⟩
      exact (((HB.out.setCell (p := ⟨w.heap.size, 0, none⟩) (by simp) _).setCell (p := ⟨w.heap.size, 1, none⟩) (by simp) _).setCell (p := ⟨w.heap.size, 2, none⟩) (by simp) _).setCell (p := ⟨w.heap.size, 3, none⟩) (by simp) _
end Go.Proofs.YtnlcllhjhbaigaaDoor
