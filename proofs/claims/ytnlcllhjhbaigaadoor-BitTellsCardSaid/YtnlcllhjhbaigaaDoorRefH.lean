/- The reference's bits of a word. -/
import Derived.Test.YtnlcllhjhbaigaaDoorRefD
namespace Go.Proofs.YtnlcllhjhbaigaaDoor
open Go Go.RowKit
attribute [local go_sem] Oper.semAt_some Grows

/-- A word's bit, as a number. -/
def bt (a i : Nat) : Nat := a / 2 ^ i % 2
theorem bt_lt (a i : Nat) : bt a i < 2 := Nat.mod_lt _ (by decide)
theorem bt_dg (a q r : Nat) (hr : r < 8) : dg a q / 2 ^ r % 2 = bt a (8 * q + r) := by
  unfold dg bt
  rw [Nat.pow_add, Nat.pow_mul, show (2 : Nat) ^ 8 = 256 by decide, ← Nat.div_div_eq_div_mul]
  generalize a / 256 ^ q = x
  rcases (show r = 0 ∨ r = 1 ∨ r = 2 ∨ r = 3 ∨ r = 4 ∨ r = 5 ∨ r = 6 ∨ r = 7 by omega) with rfl | rfl | rfl | rfl | rfl | rfl | rfl | rfl <;> omega
/-- Halved m times. -/
def hvN (v m : Nat) : Nat := v / 2 ^ m
theorem hvN_zero (v : Nat) : hvN v 0 = v := by unfold hvN; simp
theorem hvN_succ (v m : Nat) : hvN v (m + 1) = hvN v m / 2 := by unfold hvN; rw [Nat.pow_succ, ← Nat.div_div_eq_div_mul]
theorem hvN_le (v m : Nat) : hvN v m ≤ v := Nat.div_le_self _ _
def btV (a n : Nat) : List Value := (List.range n).map fun j => Value.int .i64 (bt a j : Int)
theorem btV_succ (a n : Nat) : btV a (n + 1) = btV a n ++ [.int .i64 (bt a n : Int)] := by simp [btV, List.range_succ]

set_option maxRecDepth 100000 in
set_option maxHeartbeats 4000000 in
theorem bits_any (a : Nat) (w : World) : Calls Tryd.prog 40 #[wv a] w fun e w' => ∃ g cap, e = .returned (.slice (some ⟨g, 0, none⟩) 256 cap) ∧ w.heap.size ≤ g ∧ IntsAt w' g 256 (fun j => (bt a j : Int)) ∧ Below w.heap.size w w' := by
  have A0 := Arr4.word w 24 a
  have B0 := (Below.refl _ w).alloc (Nat.le_refl _) (.cells #[.int .u64 (lim a 0), .int .u64 (lim a 1), .int .u64 (lim a 2), .int .u64 (lim a 3)] 24)
  have HC := Lib.hid (digits_any a)
  unfold wv at HC ⊢
  go_enter Tryd.func40, Tryd.ntmps40
  have k0 := A0.cell (j := 0) (by omega)
  have k1 := A0.cell (j := 1) (by omega)
  have k2 := A0.cell (j := 2) (by omega)
  have k3 := A0.cell (j := 3) (by omega)
  go_wp2_with fail
  clear k0 k1 k2 k3
  refine (HC.out _).mono ?_
  rintro e w1 ⟨g, cap, rfl, hg, hx, q⟩
  have B1 := B0.trans (q.mono B0.size)
  have R0 := World.ownsRow_nil w1 w1.heap.size 3 1
  have hgl := hx.lt
  have hz1 := B1.size
  have hs1 := Nat.le_refl w1.heap.size
  clear q A0 B0 HC hg
  obtain ⟨b0, hb0⟩ : ∃ b0, w1.heap.size = b0 := ⟨_, rfl⟩
  rw [hb0] at R0 hgl hz1
  have hs1 : b0 ≤ w1.heap.size := by omega
  clear hb0
  go_wp2
  go_loopw [4, 5] (fun t i wr => ∃ k : Nat, k ≤ 256 ∧ i = .int .i64 (k : Int) ∧ IntsAt wr g 32 (fun j => (dg a j : Int)) ∧ wr.ownsRow b0 3 1 t k (btV a k) ∧ Below w.heap.size w wr ∧ b0 ≤ wr.heap.size) (fun _ i _ => 256 - (intOf i).toNat)
  case atStart => exact ⟨0, by omega, rfl, hx, R0, B1, hs1⟩
  case round =>
    obtain ⟨k, hk, rfl, xx, hown, hB, hsz⟩ := hrel
    clear hx R0 B1 hs1
    by_cases hlt : k < 256
    · obtain ⟨q, r, hq, hr⟩ : ∃ q r, k = 8 * q + r ∧ r < 8 := ⟨k / 8, k % 8, by omega, by omega⟩
      have hq32 : q < 32 := by omega
      have hkI : (k : Int) < 256 := by omega
      have hk0 : (0 : Int) ≤ (k : Int) := by omega
      have cd := xx.cell hq32
      have e1 : (k : Int).tdiv 8 = (q : Int) := by rw [Int.tdiv_eq_ediv_of_nonneg (by omega)]; omega
      have e2 : (k : Int).tmod 8 = (r : Int) := by rw [Int.tmod_eq_emod_of_nonneg (by omega)]; omega
      have hqI : (q : Int) < 32 := by omega
      have hrI : (r : Int) < 8 := by omega
      have hr0 : (0 : Int) ≤ (r : Int) := by omega
      have hbit : hvN (dg a q) r % 2 = bt a (8 * q + r) := bt_dg a q r hr
      rw [← hq] at hbit
      have HBit := Lib.hid hbit
      have HQ := Lib.hid hq
      have HR := Lib.hid hr
      have HV := Lib.hid (btV_succ a k)
      have HK := Lib.hid hlt
      have HX := Lib.hid xx
      have HO := Lib.hid hown
      have HB := Lib.hid hB
      have HZ := Lib.hid hsz
      have hdg := dg_lt a q
      obtain ⟨v, hv⟩ : ∃ v : Nat, dg a q = v := ⟨_, rfl⟩
      rw [hv] at cd HBit hdg
      have HDG := Lib.hid hdg
      clear hk hlt hq hr hbit xx hown hB hsz hv hdg
      obtain ⟨wo, rfl⟩ : ∃ wo : World, wo = wr := ⟨_, rfl⟩
      go_wp2
      go_loopw [6, 7] (fun n j wr => ∃ m : Nat, j = .int .i64 (m : Int) ∧ n = .int .i64 (hvN v m : Int) ∧ Hid (m ≤ r) ∧ wr = wo) (fun _ j _ => 8 - (intOf j).toNat)
      case atStart => exact ⟨0, rfl, by rw [hvN_zero], Nat.zero_le _, rfl⟩
      case round =>
        obtain ⟨m, rfl, rfl, hm, rfl⟩ := hrel
        by_cases hlt : m < r
        · have hmI : (m : Int) < (r : Int) := by omega
          have hm0 : (0 : Int) ≤ (m : Int) := by omega
          have hs := hvN_succ v m
          have hl := hvN_le v m
          have HS := Lib.hid hs
          have HM := Lib.hid hlt
          have hdg := HDG.out
          generalize hvN v m = y at *
          have hn : (y : Int).tdiv 2 = ((y / 2 : Nat) : Int) := by rw [Int.tdiv_eq_ediv_of_nonneg (by omega)]; omega
          have hy : (y : Int) < 256 := by omega
          have hy0 : (0 : Int) ≤ (y : Int) := by omega
          have hy1 : ((y / 2 : Nat) : Int) < 256 := by omega
          have hy2 : (0 : Int) ≤ ((y / 2 : Nat) : Int) := by omega
          clear hs hl hdg hlt hm
          generalize y / 2 = y' at *
          go_wp2
          go_roundw
          case rel => exact ⟨m + 1, by simp, by rw [HS.out], HM.out, by first | trivial | rfl⟩
          case measure => have := HM.out; have := HR.out; simp [intOf]; omega
        · obtain rfl : m = r := by have := hm.out; omega
          have hb := HBit.out
          have hl := hvN_le v m
          have hdg := HDG.out
          have hbl := bt_lt a k
          generalize hvN v m = y at *
          have hy : (y : Int) < 256 := by omega
          have hy0 : (0 : Int) ≤ (y : Int) := by omega
          have e3 : (y : Int).tmod 2 = (bt a k : Int) := by rw [Int.tmod_eq_emod_of_nonneg (by omega)]; omega
          have hb0 : (0 : Int) ≤ (bt a k : Int) := by omega
          have hb1 : (bt a k : Int) < 2 := by omega
          generalize (bt a k : Int) = b at *
          obtain ⟨i0, hi, hz0, hz1, hz2⟩ := info_parts infoI
          have hkc : k < 256 := HK.out
          clear hb hl hdg hbl hm hlt HBit
          go_wp2_with (at_builtin; refine wpList_append_own _ rfl _ _ 44 rfl b0 3 i0 (.int .i64 0) 1 8 Tryd.underlying44 hi hz0 hz1 hz2 rfl (by decide) _ _ _ rfl (HO.out.alloc _) ⟨wr.heap.size, 0, none⟩ 1 1 [.int .i64 b] rfl rfl (cell_one _ _ _) (by simp [Value.oneCell']) (by unfold maxLen; omega) (by omega) (by have := HZ.out; simp; omega) ?_; intro v' w3 hown' hgrow hnil)
          clear hi hz0 hz1 hz2
          go_wp2
          go_roundw
          case rel =>
            have hxs3 := hgrow.size
            have hzz := HZ.out
            refine ⟨k + 1, HK.out, by simp, ?_, ?_, ?_, by simp at hxs3; omega⟩
            · exact (HX.out.alloc _).kept hgrow (fun e => by have := (HO.out.alloc (.cells #[.int .i64 b] 3)).lt _ e.symm; omega)
            · rw [HV.out]; exact hown'
            · exact (HB.out.alloc (by omega) _).grown hgrow (by simp; omega) (fun j e => by have := (HO.out.alloc (.cells #[.int .i64 b] 3)).lt j e; omega)
          case measure => have := HK.out; simp [intOf]; omega
    · obtain rfl : k = 256 := by omega
      obtain ⟨g', cap', rfl⟩ := ownsRow_succ (k := 255) hown
      have hx := IntsAt.of_row (d := fun j => (bt a j : Int)) hown (fun j hj => by simp [btV, hj])
      have HX := Lib.hid hx
      have HB := Lib.hid hB
      clear hk hlt hown xx hB hx hsz
      go_wp2
      go_ret
      exact ⟨g', cap', rfl, by have := HX.out.1; omega, HX.out.2, HB.out⟩
end Go.Proofs.YtnlcllhjhbaigaaDoor
