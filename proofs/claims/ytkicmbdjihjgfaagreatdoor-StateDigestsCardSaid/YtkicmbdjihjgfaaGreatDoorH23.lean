/- Part. -/
import Derived.Deep.MidRow
import Derived.Deep.WholeRow
import Derived.Test.YtkicmbdjihjgfaaGreatDoorH09
import Derived.Test.YtkicmbdjihjgfaaGreatDoorH10
import Derived.Deep.CutRange
import Derived.Deep.CutBlock
import Derived.Test.YtkicmbdjihjgfaaGreatDoorH15
import Derived.Test.YtkicmbdjihjgfaaGreatDoorH04
import Derived.Test.YtkicmbdjihjgfaaGreatDoorH01
set_option maxRecDepth 100000
set_option maxHeartbeats 16000000
namespace Go.Proofs.YtkicmbdjihjgfaaGreatDoor
section
open Go Go.RowKit
attribute [local go_sem] Oper.semAt_some Grows wide_fn
theorem below_rowL {B g : Nat} {w0 w : World} (hb : Below B w0 w) (hBg : B ≤ g) (cs : Array Value) : Below B w0 (w.setRow g cs) :=
 hb.trans ⟨rfl, rfl, rfl, by simp [World.setRow], fun k hk => setRow_other w g k cs (by omega)⟩
theorem pick8_ret (c : Int) (hc : I64 c) (m : Int) (hm : 0 < m) (hm2 : m ≤ 4611686018427387903) : Ret Tryz.prog 9 #[.int .i64 c, .int .i64 m] (.int .i64 (pickN c m)) := by
 refine Ret.of_same fun w => ?_
 unfold I64 at hc
 unfold pickN
 by_cases h : c < 0
 ·rw [if_pos h]
  have h0 : (0 : Int) ≤ -(c + 1) := by omega
  have h1 : -(c + 1) < 9223372036854775808 := by omega
  have q0 := Int.emod_nonneg (-(c + 1)) (show m ≠ 0 by omega)
  have q1 := Int.emod_lt_of_pos (-(c + 1)) hm
  have e := Int.tmod_eq_emod_of_nonneg h0 (b := m)
  go_enter Tryz.func9, Tryz.ntmps9
  go_wp2
  go_ret
  exact ⟨rfl, rfl⟩
 ·rw [if_neg h]
  have q0 := Int.emod_nonneg c (show m ≠ 0 by omega)
  have q1 := Int.emod_lt_of_pos c hm
  have e := Int.tmod_eq_emod_of_nonneg (show 0 ≤ c by omega) (b := m)
  go_enter Tryz.func9, Tryz.ntmps9
  go_wp2
  go_ret
  exact ⟨rfl, rfl⟩
def adrN (k : Int) : Nat := k.toNat + (if 5 < k then 256 ^ 19 else 0)
theorem adrN_lt {k : Int} (h : k < 9) : adrN k < 256 ^ 20 := by
 unfold adrN
 split <;> omega
theorem adrN_low (m : Nat) (h : m ≤ 5) : adC (adrN (m : Int)) = #[.int .u8 0, .int .u8 0, .int .u8 0, .int .u8 0, .int .u8 0, .int .u8 0, .int .u8 0, .int .u8 0, .int .u8 0, .int .u8 0, .int .u8 0, .int .u8 0, .int .u8 0, .int .u8 0, .int .u8 0, .int .u8 0, .int .u8 0, .int .u8 0, .int .u8 0, .int .u8 (m : Int)] := by
 have e : adrN (m : Int) = m := by unfold adrN; rw [if_neg (by omega)]; omega
 rw [e]
 have h19 : adB m 19 = m := by unfold adB; omega
 have hj : ∀ j, j < 19 → adB m j = 0 := fun j hj => by
  unfold adB
  rw [Nat.div_eq_of_lt (Nat.lt_of_lt_of_le (show m < 256 by omega) (Nat.le_trans (by decide : 256 ≤ 256 ^ 1) (Nat.pow_le_pow_right (by decide) (by omega))))]
 have r : adC m = #[.int .u8 ((adB m 0 : Nat) : Int), .int .u8 ((adB m 1 : Nat) : Int), .int .u8 ((adB m 2 : Nat) : Int), .int .u8 ((adB m 3 : Nat) : Int), .int .u8 ((adB m 4 : Nat) : Int), .int .u8 ((adB m 5 : Nat) : Int), .int .u8 ((adB m 6 : Nat) : Int), .int .u8 ((adB m 7 : Nat) : Int), .int .u8 ((adB m 8 : Nat) : Int), .int .u8 ((adB m 9 : Nat) : Int), .int .u8 ((adB m 10 : Nat) : Int), .int .u8 ((adB m 11 : Nat) : Int), .int .u8 ((adB m 12 : Nat) : Int), .int .u8 ((adB m 13 : Nat) : Int), .int .u8 ((adB m 14 : Nat) : Int), .int .u8 ((adB m 15 : Nat) : Int), .int .u8 ((adB m 16 : Nat) : Int), .int .u8 ((adB m 17 : Nat) : Int), .int .u8 ((adB m 18 : Nat) : Int), .int .u8 ((adB m 19 : Nat) : Int)] := rfl
 rw [r, h19, hj 0 (by decide), hj 1 (by decide), hj 2 (by decide), hj 3 (by decide), hj 4 (by decide), hj 5 (by decide), hj 6 (by decide), hj 7 (by decide), hj 8 (by decide), hj 9 (by decide), hj 10 (by decide), hj 11 (by decide), hj 12 (by decide), hj 13 (by decide), hj 14 (by decide), hj 15 (by decide), hj 16 (by decide), hj 17 (by decide), hj 18 (by decide)]
 rfl
theorem adrN_high (m : Nat) (h : 5 < m) (h9 : m < 9) : adC (adrN (m : Int)) = #[.int .u8 1, .int .u8 0, .int .u8 0, .int .u8 0, .int .u8 0, .int .u8 0, .int .u8 0, .int .u8 0, .int .u8 0, .int .u8 0, .int .u8 0, .int .u8 0, .int .u8 0, .int .u8 0, .int .u8 0, .int .u8 0, .int .u8 0, .int .u8 0, .int .u8 0, .int .u8 (m : Int)] := by
 have e : adrN (m : Int) = m + 256 ^ 19 := by unfold adrN; rw [if_pos (by omega)]; omega
 rw [e]
 have h0 : adB (m + 256 ^ 19) 0 = 1 := by unfold adB; omega
 have h19 : adB (m + 256 ^ 19) 19 = m := by unfold adB; omega
 have hj : ∀ j, 0 < j → j < 19 → adB (m + 256 ^ 19) j = 0 := fun j h0 hj => by
  have hj' : j = 1 ∨ j = 2 ∨ j = 3 ∨ j = 4 ∨ j = 5 ∨ j = 6 ∨ j = 7 ∨ j = 8 ∨ j = 9 ∨ j = 10 ∨ j = 11 ∨ j = 12 ∨ j = 13 ∨ j = 14 ∨ j = 15 ∨ j = 16 ∨ j = 17 ∨ j = 18 := by omega
  unfold adB
  rcases hj' with rfl | rfl | rfl | rfl | rfl | rfl | rfl | rfl | rfl | rfl | rfl | rfl | rfl | rfl | rfl | rfl | rfl | rfl <;> omega
 have r : adC (m + 256 ^ 19) = #[.int .u8 ((adB (m + 256 ^ 19) 0 : Nat) : Int), .int .u8 ((adB (m + 256 ^ 19) 1 : Nat) : Int), .int .u8 ((adB (m + 256 ^ 19) 2 : Nat) : Int), .int .u8 ((adB (m + 256 ^ 19) 3 : Nat) : Int), .int .u8 ((adB (m + 256 ^ 19) 4 : Nat) : Int), .int .u8 ((adB (m + 256 ^ 19) 5 : Nat) : Int), .int .u8 ((adB (m + 256 ^ 19) 6 : Nat) : Int), .int .u8 ((adB (m + 256 ^ 19) 7 : Nat) : Int), .int .u8 ((adB (m + 256 ^ 19) 8 : Nat) : Int), .int .u8 ((adB (m + 256 ^ 19) 9 : Nat) : Int), .int .u8 ((adB (m + 256 ^ 19) 10 : Nat) : Int), .int .u8 ((adB (m + 256 ^ 19) 11 : Nat) : Int), .int .u8 ((adB (m + 256 ^ 19) 12 : Nat) : Int), .int .u8 ((adB (m + 256 ^ 19) 13 : Nat) : Int), .int .u8 ((adB (m + 256 ^ 19) 14 : Nat) : Int), .int .u8 ((adB (m + 256 ^ 19) 15 : Nat) : Int), .int .u8 ((adB (m + 256 ^ 19) 16 : Nat) : Int), .int .u8 ((adB (m + 256 ^ 19) 17 : Nat) : Int), .int .u8 ((adB (m + 256 ^ 19) 18 : Nat) : Int), .int .u8 ((adB (m + 256 ^ 19) 19 : Nat) : Int)] := rfl
 rw [r, h0, h19, hj 1 (by decide) (by decide), hj 2 (by decide) (by decide), hj 3 (by decide) (by decide), hj 4 (by decide) (by decide), hj 5 (by decide) (by decide), hj 6 (by decide) (by decide), hj 7 (by decide) (by decide), hj 8 (by decide) (by decide), hj 9 (by decide) (by decide), hj 10 (by decide) (by decide), hj 11 (by decide) (by decide), hj 12 (by decide) (by decide), hj 13 (by decide) (by decide), hj 14 (by decide) (by decide), hj 15 (by decide) (by decide), hj 16 (by decide) (by decide), hj 17 (by decide) (by decide), hj 18 (by decide) (by decide)]
 rfl
theorem addr8_any (W : World) (c : Int) (hc : I64 c) : Calls Tryz.prog 16 #[.int .i64 c] W fun e w' => e = .returned (.agg (adC (adrN (pickN c 9)))) ∧ Below W.heap.size W w' := by
 have PK := hid (pick8_ret c hc 9 (by decide) (by decide))
 obtain ⟨k0, k1⟩ := pickN_range c 9 (by decide)
 obtain ⟨m, hm⟩ : ∃ m : Nat, pickN c 9 = (m : Int) := ⟨(pickN c 9).toNat, by omega⟩
 rw [hm] at PK k0 k1 ⊢
 clear hm
 have hr := (Has.new W 25 #[.int .u8 0, .int .u8 0, .int .u8 0, .int .u8 0, .int .u8 0, .int .u8 0, .int .u8 0, .int .u8 0, .int .u8 0, .int .u8 0, .int .u8 0, .int .u8 0, .int .u8 0, .int .u8 0, .int .u8 0, .int .u8 0, .int .u8 0, .int .u8 0, .int .u8 0, .int .u8 0]).alloc (.cells #[.int .u8 0, .int .u8 0, .int .u8 0, .int .u8 0, .int .u8 0, .int .u8 0, .int .u8 0, .int .u8 0, .int .u8 0, .int .u8 0, .int .u8 0, .int .u8 0, .int .u8 0, .int .u8 0, .int .u8 0, .int .u8 0, .int .u8 0, .int .u8 0, .int .u8 0, .int .u8 0] 25)
 have ht := Has.new (W.alloc (.cells #[.int .u8 0, .int .u8 0, .int .u8 0, .int .u8 0, .int .u8 0, .int .u8 0, .int .u8 0, .int .u8 0, .int .u8 0, .int .u8 0, .int .u8 0, .int .u8 0, .int .u8 0, .int .u8 0, .int .u8 0, .int .u8 0, .int .u8 0, .int .u8 0, .int .u8 0, .int .u8 0] 25)) 25 #[.int .u8 0, .int .u8 0, .int .u8 0, .int .u8 0, .int .u8 0, .int .u8 0, .int .u8 0, .int .u8 0, .int .u8 0, .int .u8 0, .int .u8 0, .int .u8 0, .int .u8 0, .int .u8 0, .int .u8 0, .int .u8 0, .int .u8 0, .int .u8 0, .int .u8 0, .int .u8 0]
 simp only [World.size_alloc] at ht
 have q0 := (newA W (.cells #[.int .u8 0, .int .u8 0, .int .u8 0, .int .u8 0, .int .u8 0, .int .u8 0, .int .u8 0, .int .u8 0, .int .u8 0, .int .u8 0, .int .u8 0, .int .u8 0, .int .u8 0, .int .u8 0, .int .u8 0, .int .u8 0, .int .u8 0, .int .u8 0, .int .u8 0, .int .u8 0] 25)).alloc (by simp) (.cells #[.int .u8 0, .int .u8 0, .int .u8 0, .int .u8 0, .int .u8 0, .int .u8 0, .int .u8 0, .int .u8 0, .int .u8 0, .int .u8 0, .int .u8 0, .int .u8 0, .int .u8 0, .int .u8 0, .int .u8 0, .int .u8 0, .int .u8 0, .int .u8 0, .int .u8 0, .int .u8 0] 25)
 obtain ⟨V, hV⟩ : ∃ V, (W.alloc (.cells #[.int .u8 0, .int .u8 0, .int .u8 0, .int .u8 0, .int .u8 0, .int .u8 0, .int .u8 0, .int .u8 0, .int .u8 0, .int .u8 0, .int .u8 0, .int .u8 0, .int .u8 0, .int .u8 0, .int .u8 0, .int .u8 0, .int .u8 0, .int .u8 0, .int .u8 0, .int .u8 0] 25)).alloc (.cells #[.int .u8 0, .int .u8 0, .int .u8 0, .int .u8 0, .int .u8 0, .int .u8 0, .int .u8 0, .int .u8 0, .int .u8 0, .int .u8 0, .int .u8 0, .int .u8 0, .int .u8 0, .int .u8 0, .int .u8 0, .int .u8 0, .int .u8 0, .int .u8 0, .int .u8 0, .int .u8 0] 25) = V := ⟨_, rfl⟩
 rw [hV] at hr ht q0
 have HR := hid hr
 have HT := hid ht
 have Q := hid q0
 have HM := hid (show m < 9 by omega)
 have hw : IntKind.u8.wrap (m : Int) = (m : Int) := by rw [IntKind.wrap_u8]; omega
 clear hr ht q0 k0 k1
 go_enter Tryz.func16, Tryz.ntmps16
 go_wp2_with fail
 clear hV
 refine (PK.out _).mono ?_
 rintro _ w1 ⟨rfl, hb1⟩
 have Q1 := hid (Q.out.trans (hb1.mono Q.out.size))
 have hr := HR.out.later hb1
 have ht := HT.out.later hb1
 have c19 := ht.cell 19 _ rfl
 have f19 := ht.frozen 19
 clear hb1 HR HT PK Q
 have hr1 := hr.other (p := ⟨W.heap.size + 1, 19, none⟩) (by simp) (.int .u8 (m : Int))
 have ht1 := ht.set 19 (.int .u8 (m : Int))
 have q1 := Q1.out.setCell (p := ⟨W.heap.size + 1, 19, none⟩) (by simp) (.int .u8 (m : Int))
 obtain ⟨U, hU⟩ : ∃ U, w1.setCell ⟨W.heap.size + 1, 19, none⟩ (.int .u8 (m : Int)) = U := ⟨_, rfl⟩
 rw [hU] at hr1 ht1 q1
 replace ht1 : Has U (W.heap.size + 1) 25 #[.int .u8 0, .int .u8 0, .int .u8 0, .int .u8 0, .int .u8 0, .int .u8 0, .int .u8 0, .int .u8 0, .int .u8 0, .int .u8 0, .int .u8 0, .int .u8 0, .int .u8 0, .int .u8 0, .int .u8 0, .int .u8 0, .int .u8 0, .int .u8 0, .int .u8 0, .int .u8 (m : Int)] := ht1
 by_cases hm5 : m ≤ 5
 ·have h5I : ¬ (5 : Int) < (m : Int) := by omega
  have h5N : ¬ 5 < m := by omega
  have LD := run_loadVar_row (P := Tryz.prog) U (W.heap.size + 1) 25 25 _ (0, 0) _ ht1 Tryz.underlying25 rfl infoAd
  have hF : Has (U.setRow W.heap.size #[.int .u8 0, .int .u8 0, .int .u8 0, .int .u8 0, .int .u8 0, .int .u8 0, .int .u8 0, .int .u8 0, .int .u8 0, .int .u8 0, .int .u8 0, .int .u8 0, .int .u8 0, .int .u8 0, .int .u8 0, .int .u8 0, .int .u8 0, .int .u8 0, .int .u8 0, .int .u8 (m : Int)]) W.heap.size 25 #[.int .u8 0, .int .u8 0, .int .u8 0, .int .u8 0, .int .u8 0, .int .u8 0, .int .u8 0, .int .u8 0, .int .u8 0, .int .u8 0, .int .u8 0, .int .u8 0, .int .u8 0, .int .u8 0, .int .u8 0, .int .u8 0, .int .u8 0, .int .u8 0, .int .u8 0, .int .u8 (m : Int)] := setRow_heap _ _ _ _ _ _ hr1
  have qF := hid (below_rowL q1 (g := W.heap.size) (Nat.le_refl _) #[.int .u8 0, .int .u8 0, .int .u8 0, .int .u8 0, .int .u8 0, .int .u8 0, .int .u8 0, .int .u8 0, .int .u8 0, .int .u8 0, .int .u8 0, .int .u8 0, .int .u8 0, .int .u8 0, .int .u8 0, .int .u8 0, .int .u8 0, .int .u8 0, .int .u8 0, .int .u8 (m : Int)])
  have HO := hid (show (#[.int .u8 0, .int .u8 0, .int .u8 0, .int .u8 0, .int .u8 0, .int .u8 0, .int .u8 0, .int .u8 0, .int .u8 0, .int .u8 0, .int .u8 0, .int .u8 0, .int .u8 0, .int .u8 0, .int .u8 0, .int .u8 0, .int .u8 0, .int .u8 0, .int .u8 0, .int .u8 (m : Int)] : Array Value).all (·.oneCell') = true from by simp [Value.oneCell'])
  have HL := hid LD
  have HRR := hid hr1
  have HFF := hid hF
  have HAD := hid (adrN_low m hm5)
  clear LD hF hr ht hr1 ht1 q1 hm5
  go_wp2_with (first | (refine wpList_load_known rfl _ (.tmp 3) rfl _ rfl _ HL.out ?_) | (refine wpList_store_row rfl _ (.tmp 2) (.tmp 13) rfl _ _ rfl rfl _ _ HRR.out infoAd rfl HO.out ?_))
  try simp only [Exit.inBlock, Exit.then]
  refine bodyPost_ret (results_cell_row rfl _ _ W.heap.size 25 _ (0, 0) _ rfl HFF.out Tryz.underlying25 rfl infoAd) rfl ?_
  exact ⟨by rw [HAD.out], qF.out⟩
 ·have h5I : (5 : Int) < (m : Int) := by omega
  have h5N : 5 < m := by omega
  have c0 := ht1.cell 0 _ rfl
  have f0 := ht1.frozen 0
  have hr2 := hr1.other (p := ⟨W.heap.size + 1, 0, none⟩) (by simp) (.int .u8 1)
  have ht2 := ht1.set 0 (.int .u8 1)
  have q2 := q1.setCell (p := ⟨W.heap.size + 1, 0, none⟩) (by simp) (.int .u8 1)
  obtain ⟨U2, hU2⟩ : ∃ U2, U.setCell ⟨W.heap.size + 1, 0, none⟩ (.int .u8 1) = U2 := ⟨_, rfl⟩
  rw [hU2] at hr2 ht2 q2
  replace ht2 : Has U2 (W.heap.size + 1) 25 #[.int .u8 1, .int .u8 0, .int .u8 0, .int .u8 0, .int .u8 0, .int .u8 0, .int .u8 0, .int .u8 0, .int .u8 0, .int .u8 0, .int .u8 0, .int .u8 0, .int .u8 0, .int .u8 0, .int .u8 0, .int .u8 0, .int .u8 0, .int .u8 0, .int .u8 0, .int .u8 (m : Int)] := ht2
  have LD := run_loadVar_row (P := Tryz.prog) U2 (W.heap.size + 1) 25 25 _ (0, 0) _ ht2 Tryz.underlying25 rfl infoAd
  have hF : Has (U2.setRow W.heap.size #[.int .u8 1, .int .u8 0, .int .u8 0, .int .u8 0, .int .u8 0, .int .u8 0, .int .u8 0, .int .u8 0, .int .u8 0, .int .u8 0, .int .u8 0, .int .u8 0, .int .u8 0, .int .u8 0, .int .u8 0, .int .u8 0, .int .u8 0, .int .u8 0, .int .u8 0, .int .u8 (m : Int)]) W.heap.size 25 #[.int .u8 1, .int .u8 0, .int .u8 0, .int .u8 0, .int .u8 0, .int .u8 0, .int .u8 0, .int .u8 0, .int .u8 0, .int .u8 0, .int .u8 0, .int .u8 0, .int .u8 0, .int .u8 0, .int .u8 0, .int .u8 0, .int .u8 0, .int .u8 0, .int .u8 0, .int .u8 (m : Int)] := setRow_heap _ _ _ _ _ _ hr2
  have qF := hid (below_rowL q2 (g := W.heap.size) (Nat.le_refl _) #[.int .u8 1, .int .u8 0, .int .u8 0, .int .u8 0, .int .u8 0, .int .u8 0, .int .u8 0, .int .u8 0, .int .u8 0, .int .u8 0, .int .u8 0, .int .u8 0, .int .u8 0, .int .u8 0, .int .u8 0, .int .u8 0, .int .u8 0, .int .u8 0, .int .u8 0, .int .u8 (m : Int)])
  have HO := hid (show (#[.int .u8 1, .int .u8 0, .int .u8 0, .int .u8 0, .int .u8 0, .int .u8 0, .int .u8 0, .int .u8 0, .int .u8 0, .int .u8 0, .int .u8 0, .int .u8 0, .int .u8 0, .int .u8 0, .int .u8 0, .int .u8 0, .int .u8 0, .int .u8 0, .int .u8 0, .int .u8 (m : Int)] : Array Value).all (·.oneCell') = true from by simp [Value.oneCell'])
  have HL := hid LD
  have HRR := hid hr2
  have HFF := hid hF
  have HAD := hid (adrN_high m h5N HM.out)
  clear LD hF hr ht hr1 ht1 q1 hr2 ht2 q2 hm5
  go_wp2_with (first | (refine wpList_load_known rfl _ (.tmp 3) rfl _ rfl _ HL.out ?_) | (refine wpList_store_row rfl _ (.tmp 2) (.tmp 13) rfl _ _ rfl rfl _ _ HRR.out infoAd rfl HO.out ?_))
  try simp only [Exit.inBlock, Exit.then]
  refine bodyPost_ret (results_cell_row rfl _ _ W.heap.size 25 _ (0, 0) _ rfl HFF.out Tryz.underlying25 rfl infoAd) rfl ?_
  exact ⟨by rw [HAD.out], qF.out⟩
theorem built_ch0 (z : Int) (x0 x1 x2 x3 x4 x5 x6 x7 x8 x9 x10 x11 x12 x13 x14 x15 x16 x17 x18 x19 : Value) : Tryz.prog.built 33 [(0, .int .i64 z), (1, .agg #[x0, x1, x2, x3, x4, x5, x6, x7, x8, x9, x10, x11, x12, x13, x14, x15, x16, x17, x18, x19])] = some #[.int .i64 z, x0, x1, x2, x3, x4, x5, x6, x7, x8, x9, x10, x11, x12, x13, x14, x15, x16, x17, x18, x19, .int .u64 0, .int .u64 0, .int .u64 0, .int .u64 0, .int .u64 0, .int .u64 0, .int .u64 0, .int .u64 0, .int .i64 0, .string { data := #[] }] := by kernel_rfl
theorem built_ch (k : Int) (n : Nat) : Tryz.prog.built 33 [(0, .int .i64 k), (1, .agg (adC n))] = some (chC ⟨k, n, 0, 0, 0, ⟨#[]⟩⟩) := by
 have h := built_ch0 k (.int .u8 ((adB n 0 : Nat) : Int)) (.int .u8 ((adB n 1 : Nat) : Int)) (.int .u8 ((adB n 2 : Nat) : Int)) (.int .u8 ((adB n 3 : Nat) : Int)) (.int .u8 ((adB n 4 : Nat) : Int)) (.int .u8 ((adB n 5 : Nat) : Int)) (.int .u8 ((adB n 6 : Nat) : Int)) (.int .u8 ((adB n 7 : Nat) : Int)) (.int .u8 ((adB n 8 : Nat) : Int)) (.int .u8 ((adB n 9 : Nat) : Int)) (.int .u8 ((adB n 10 : Nat) : Int)) (.int .u8 ((adB n 11 : Nat) : Int)) (.int .u8 ((adB n 12 : Nat) : Int)) (.int .u8 ((adB n 13 : Nat) : Int)) (.int .u8 ((adB n 14 : Nat) : Int)) (.int .u8 ((adB n 15 : Nat) : Int)) (.int .u8 ((adB n 16 : Nat) : Int)) (.int .u8 ((adB n 17 : Nat) : Int)) (.int .u8 ((adB n 18 : Nat) : Int)) (.int .u8 ((adB n 19 : Nat) : Int))
 have e1 : adC n = #[.int .u8 ((adB n 0 : Nat) : Int), .int .u8 ((adB n 1 : Nat) : Int), .int .u8 ((adB n 2 : Nat) : Int), .int .u8 ((adB n 3 : Nat) : Int), .int .u8 ((adB n 4 : Nat) : Int), .int .u8 ((adB n 5 : Nat) : Int), .int .u8 ((adB n 6 : Nat) : Int), .int .u8 ((adB n 7 : Nat) : Int), .int .u8 ((adB n 8 : Nat) : Int), .int .u8 ((adB n 9 : Nat) : Int), .int .u8 ((adB n 10 : Nat) : Int), .int .u8 ((adB n 11 : Nat) : Int), .int .u8 ((adB n 12 : Nat) : Int), .int .u8 ((adB n 13 : Nat) : Int), .int .u8 ((adB n 14 : Nat) : Int), .int .u8 ((adB n 15 : Nat) : Int), .int .u8 ((adB n 16 : Nat) : Int), .int .u8 ((adB n 17 : Nat) : Int), .int .u8 ((adB n 18 : Nat) : Int), .int .u8 ((adB n 19 : Nat) : Int)] := rfl
 have e2 : chC ⟨k, n, 0, 0, 0, ⟨#[]⟩⟩ = #[.int .i64 k, .int .u8 ((adB n 0 : Nat) : Int), .int .u8 ((adB n 1 : Nat) : Int), .int .u8 ((adB n 2 : Nat) : Int), .int .u8 ((adB n 3 : Nat) : Int), .int .u8 ((adB n 4 : Nat) : Int), .int .u8 ((adB n 5 : Nat) : Int), .int .u8 ((adB n 6 : Nat) : Int), .int .u8 ((adB n 7 : Nat) : Int), .int .u8 ((adB n 8 : Nat) : Int), .int .u8 ((adB n 9 : Nat) : Int), .int .u8 ((adB n 10 : Nat) : Int), .int .u8 ((adB n 11 : Nat) : Int), .int .u8 ((adB n 12 : Nat) : Int), .int .u8 ((adB n 13 : Nat) : Int), .int .u8 ((adB n 14 : Nat) : Int), .int .u8 ((adB n 15 : Nat) : Int), .int .u8 ((adB n 16 : Nat) : Int), .int .u8 ((adB n 17 : Nat) : Int), .int .u8 ((adB n 18 : Nat) : Int), .int .u8 ((adB n 19 : Nat) : Int), .int .u64 0, .int .u64 0, .int .u64 0, .int .u64 0, .int .u64 0, .int .u64 0, .int .u64 0, .int .u64 0, .int .i64 0, .string { data := #[] }] := by
  unfold chC chL chT
  simp only [lim_zero]
  rfl
 rw [e1, e2]
 exact h
theorem wpList_build_two {ops : Array Oper} {rest : List Oper} {o : Oper} {a : Act} {w : World} {Q : Exit → Act → World → Prop} (hw : Region.wanted o (yielded ops a.tmps) = true) (x y : Operand) (ho : o.op = .build 33 #[(0, x), (1, y)]) (u v : Value) (cs : Array Value) (hb : Tryz.prog.built 33 [(0, u), (1, v)] = some cs) (hx : a.eval x = u) (hy : a.eval y = v)
  (h : wpList Tryz.prog ops Q rest (a.put o.dst (.agg cs)) w) : wpList Tryz.prog ops Q (o :: rest) a w := by
 refine wpList_step fun K hK => ?_
 rw [if_pos hw]
 have e : Tryz.prog.built 33 (#[((0 : Nat), x), (1, y)].map fun (i, x) => (i, a.eval x)).toList = some cs := by
  simp only [List.map_toArray, List.map_cons, List.map_nil, hx, hy]
  exact hb
 refine wp_build 33 #[(0, x), (1, y)] ho (by rw [e]; rfl) (hK _ _ ?_)
 rw [e]
 exact h
def codeN (j : Int) : ByteArray := if j = 0 then ⟨#[]⟩ else if j = 1 then ⟨#[0]⟩ else if j = 2 then ⟨#[96, 1]⟩ else ⟨#[99, 111, 100, 101]⟩
def chN (a b c d : Int) : Ch :=
 if pickN a 4 = 0 then ⟨1, adrN (pickN b 9), 0, (pickN c 1000).toNat, 0, ⟨#[]⟩⟩
 else if pickN a 4 = 1 then ⟨2, adrN (pickN b 9), 0, 0, pickN c 4, ⟨#[]⟩⟩
 else if pickN a 4 = 2 then ⟨3, adrN (pickN b 9), 0, 0, 0, codeN (pickN c 4)⟩
 else ⟨4, adrN (pickN b 9), (pickN c 5).toNat, (pickN d 3).toNat, 0, ⟨#[]⟩⟩
def UC (W : World) (u : Ch) (f : Nat → Bool) (g : Nat → Value) (w : World) : Prop :=
 Below W.heap.size W w ∧ (f 8 = true → ∃ b, g 8 = .pointer (some ⟨b, 0, none⟩) ∧ W.heap.size ≤ b ∧ (f 9 = false → Has w b 33 #[.int .i64 0, .int .u8 0, .int .u8 0, .int .u8 0, .int .u8 0, .int .u8 0, .int .u8 0, .int .u8 0, .int .u8 0, .int .u8 0, .int .u8 0, .int .u8 0, .int .u8 0, .int .u8 0, .int .u8 0, .int .u8 0, .int .u8 0, .int .u8 0, .int .u8 0, .int .u8 0, .int .u8 0, .int .u64 0, .int .u64 0, .int .u64 0, .int .u64 0, .int .u64 0, .int .u64 0, .int .u64 0, .int .u64 0, .int .i64 0, .string { data := #[] }]) ∧ (f 9 = true → Has w b 33 (chC u)))
section
variable {W : World} {u : Ch} {f : Nat → Bool} {g : Nat → Value} {w w' : World}
theorem UC.later (h : UC W u f g w) (hb : Below w.heap.size w w') : UC W u f g w' := by
 obtain ⟨h1, h5⟩ := h
 refine ⟨h1.trans (hb.mono h1.size), fun e => ?_⟩
 obtain ⟨b, e1, e2, e3, e4⟩ := h5 e
 exact ⟨b, e1, e2, fun k => (e3 k).later hb, fun k => (e4 k).later hb⟩
theorem UC.same {f' : Nat → Bool} {g' : Nat → Value} (h : UC W u f g w) (hh : ∀ j, j = 8 ∨ j = 9 → f j = f' j ∧ g j = g' j) : UC W u f' g' w := by
 unfold UC at h ⊢
 rwa [(hh 8 (by omega)).1, (hh 8 (by omega)).2, (hh 9 (by omega)).1] at h
theorem UC.box (h : UC W u f g w) (f1 : f 9 = false) : UC W u (upd f 8 true) (upd g 8 (.pointer (some ⟨w.heap.size, 0, none⟩))) (w.alloc (.cells #[.int .i64 0, .int .u8 0, .int .u8 0, .int .u8 0, .int .u8 0, .int .u8 0, .int .u8 0, .int .u8 0, .int .u8 0, .int .u8 0, .int .u8 0, .int .u8 0, .int .u8 0, .int .u8 0, .int .u8 0, .int .u8 0, .int .u8 0, .int .u8 0, .int .u8 0, .int .u8 0, .int .u8 0, .int .u64 0, .int .u64 0, .int .u64 0, .int .u64 0, .int .u64 0, .int .u64 0, .int .u64 0, .int .u64 0, .int .i64 0, .string { data := #[] }] 33)) := by
 obtain ⟨h1, h5⟩ := h.later (newA w (.cells #[.int .i64 0, .int .u8 0, .int .u8 0, .int .u8 0, .int .u8 0, .int .u8 0, .int .u8 0, .int .u8 0, .int .u8 0, .int .u8 0, .int .u8 0, .int .u8 0, .int .u8 0, .int .u8 0, .int .u8 0, .int .u8 0, .int .u8 0, .int .u8 0, .int .u8 0, .int .u8 0, .int .u8 0, .int .u64 0, .int .u64 0, .int .u64 0, .int .u64 0, .int .u64 0, .int .u64 0, .int .u64 0, .int .u64 0, .int .i64 0, .string { data := #[] }] 33))
 exact ⟨h1, fun _ => ⟨w.heap.size, by simp [upd], h.1.size, fun _ => Has.new w 33 #[.int .i64 0, .int .u8 0, .int .u8 0, .int .u8 0, .int .u8 0, .int .u8 0, .int .u8 0, .int .u8 0, .int .u8 0, .int .u8 0, .int .u8 0, .int .u8 0, .int .u8 0, .int .u8 0, .int .u8 0, .int .u8 0, .int .u8 0, .int .u8 0, .int .u8 0, .int .u8 0, .int .u8 0, .int .u64 0, .int .u64 0, .int .u64 0, .int .u64 0, .int .u64 0, .int .u64 0, .int .u64 0, .int .u64 0, .int .i64 0, .string { data := #[] }], fun k => by simp [upd, f1] at k⟩⟩
theorem UC.put (h : UC W u f g w) (fa : f 8 = true) (f1 : f 9 = false) {b : Nat} (eb : g 8 = .pointer (some ⟨b, 0, none⟩)) (v : Value) : UC W u (upd f 9 true) (upd g 9 v) (w.setRow b (chC u)) := by
 obtain ⟨h1, h5⟩ := h
 obtain ⟨b', e1, e2, e3, e4⟩ := h5 fa
 rw [eb] at e1
 injection e1 with e1
 injection e1 with e1
 injection e1 with e1 _ _
 subst e1
 have hz := e3 f1
 exact ⟨below_rowL h1 e2 _, fun _ => ⟨b, by simpa [upd] using eb, e2, fun k => by simp [upd] at k, fun _ => setRow_heap _ _ _ _ _ _ hz⟩⟩
end
theorem change8_any (W : World) (a b c d : Int) (ha : I64 a) (hb : I64 b) (hc : I64 c) (hd : I64 d) : Calls Tryz.prog 22 #[.agg #[.int .i64 a, .int .i64 b, .int .i64 c, .int .i64 d]] W fun e w' => e = .returned (.agg (chC (chN a b c d))) ∧ Below W.heap.size W w' := by
 have hmx : Tryz.prog.follows .mixedOrders = true := by kernel_rfl
 have PA := hid (pick8_ret a ha 4 (by decide) (by decide))
 have AD := hid (fun X => addr8_any X b hb)
 have PC := hid (fun m h1 h2 => pick8_ret c hc m h1 h2)
 have PD := hid (pick8_ret d hd 3 (by decide) (by decide))
 obtain ⟨j0, j1⟩ := pickN_range a 4 (by decide)
 have HCH := hid (show ∀ k, pickN a 4 = k → chN a b c d = if k = 0 then ⟨1, adrN (pickN b 9), 0, (pickN c 1000).toNat, 0, ⟨#[]⟩⟩ else if k = 1 then ⟨2, adrN (pickN b 9), 0, 0, pickN c 4, ⟨#[]⟩⟩ else if k = 2 then ⟨3, adrN (pickN b 9), 0, 0, 0, codeN (pickN c 4)⟩ else ⟨4, adrN (pickN b 9), (pickN c 5).toNat, (pickN d 3).toNat, 0, ⟨#[]⟩⟩ from fun k h => by unfold chN; rw [h])
 obtain ⟨k, hk⟩ : ∃ k, pickN a 4 = k := ⟨_, rfl⟩
 replace HCH := hid (HCH.out k hk)
 rw [hk] at PA j0 j1
 clear hk
 obtain ⟨res, hres⟩ : ∃ r, chN a b c d = r := ⟨_, rfl⟩
 rw [hres] at HCH ⊢
 clear hres
 generalize adrN (pickN b 9) = n at *
 have BC := hid (built_ch (1 + k) n)
 have hB0 := (Has.new W 34 #[.int .i64 a, .int .i64 b, .int .i64 c, .int .i64 d]).alloc (.cells #[.int .i64 0, .int .u8 0, .int .u8 0, .int .u8 0, .int .u8 0, .int .u8 0, .int .u8 0, .int .u8 0, .int .u8 0, .int .u8 0, .int .u8 0, .int .u8 0, .int .u8 0, .int .u8 0, .int .u8 0, .int .u8 0, .int .u8 0, .int .u8 0, .int .u8 0, .int .u8 0, .int .u8 0, .int .u64 0, .int .u64 0, .int .u64 0, .int .u64 0, .int .u64 0, .int .u64 0, .int .u64 0, .int .u64 0, .int .i64 0, .string { data := #[] }] 33)
 have hR0 := Has.new (W.alloc (.cells #[.int .i64 a, .int .i64 b, .int .i64 c, .int .i64 d] 34)) 33 #[.int .i64 0, .int .u8 0, .int .u8 0, .int .u8 0, .int .u8 0, .int .u8 0, .int .u8 0, .int .u8 0, .int .u8 0, .int .u8 0, .int .u8 0, .int .u8 0, .int .u8 0, .int .u8 0, .int .u8 0, .int .u8 0, .int .u8 0, .int .u8 0, .int .u8 0, .int .u8 0, .int .u8 0, .int .u64 0, .int .u64 0, .int .u64 0, .int .u64 0, .int .u64 0, .int .u64 0, .int .u64 0, .int .u64 0, .int .i64 0, .string { data := #[] }]
 simp only [World.size_alloc] at hR0
 have q0 := (newA W (.cells #[.int .i64 a, .int .i64 b, .int .i64 c, .int .i64 d] 34)).alloc (by simp) (.cells #[.int .i64 0, .int .u8 0, .int .u8 0, .int .u8 0, .int .u8 0, .int .u8 0, .int .u8 0, .int .u8 0, .int .u8 0, .int .u8 0, .int .u8 0, .int .u8 0, .int .u8 0, .int .u8 0, .int .u8 0, .int .u8 0, .int .u8 0, .int .u8 0, .int .u8 0, .int .u8 0, .int .u8 0, .int .u64 0, .int .u64 0, .int .u64 0, .int .u64 0, .int .u64 0, .int .u64 0, .int .u64 0, .int .u64 0, .int .i64 0, .string { data := #[] }] 33)
 obtain ⟨V, hV⟩ : ∃ V, (W.alloc (.cells #[.int .i64 a, .int .i64 b, .int .i64 c, .int .i64 d] 34)).alloc (.cells #[.int .i64 0, .int .u8 0, .int .u8 0, .int .u8 0, .int .u8 0, .int .u8 0, .int .u8 0, .int .u8 0, .int .u8 0, .int .u8 0, .int .u8 0, .int .u8 0, .int .u8 0, .int .u8 0, .int .u8 0, .int .u8 0, .int .u8 0, .int .u8 0, .int .u8 0, .int .u8 0, .int .u8 0, .int .u64 0, .int .u64 0, .int .u64 0, .int .u64 0, .int .u64 0, .int .u64 0, .int .u64 0, .int .u64 0, .int .i64 0, .string { data := #[] }] 33) = V := ⟨_, rfl⟩
 rw [hV] at hB0 hR0 q0
 have HB := hid hB0
 have HR := hid hR0
 have Q0 := hid q0
 have hk1 : (1 : Int) + k ≤ 4 := by omega
 have hk2 : (0 : Int) ≤ 1 + k := by omega
 clear hB0 hR0 q0 ha hb hc hd
 go_enter Tryz.func22, Tryz.ntmps22
 go_wp2_with fail
 clear hV
 refine wp_region_ghost [some (.pointer (some ⟨W.heap.size, 0, none⟩)), some (.int .i64 a), some (.int .i64 k), some (.int .i64 (1 + k)), some (.pointer (some ⟨W.heap.size, 1, none⟩)), some (.int .i64 b), some (.agg (adC n)), some (.agg (chC ⟨1 + k, n, 0, 0, 0, ⟨#[]⟩⟩)), none, none] [[], [0], [0, 1], [0, 1, 2], [], [4], [0, 1, 2, 4, 5], [0, 1, 2, 3, 4, 5, 6], [], [0, 1, 2, 3, 4, 5, 6, 7, 8]] (UC V ⟨1 + k, n, 0, 0, 0, ⟨#[]⟩⟩) hmx (by kernel_rfl) (by kernel_rfl) (fun f g wa wb h hb => h.later hb) (fun f f' g g' wa h => fun hh => hh.same (fun j hj => h j (by rcases hj with rfl | rfl <;> rfl))) ?_ ?_
 ·exact ⟨(Below.refl _ _).drew, fun h => absurd h (by simp)⟩
 rintro f g y hU Dn
 have c0 := (HB.out.later hU.1).cell 0 _ rfl
 have c1 := (HB.out.later hU.1).cell 1 _ rfl
 replace hU := hid hU
 refine GW.known _ rfl (fun hd hf => ?_) ?_
 ·go_wp2_with fail
  exact ⟨rfl, rfl, Below.refl _ _⟩
 simp only [Act.put, sT, sS, sZ]
 refine GW.known _ rfl (fun hd hf => ?_) ?_
 ·go_wp2_with fail
  exact ⟨rfl, rfl, Below.refl _ _⟩
 simp only [Act.put, sT, sS, sZ]
 refine GW.known _ rfl (fun hd hf => ?_) ?_
 ·go_wp2_with fail
  refine (PA.out _).mono ?_
  rintro e u ⟨rfl, hb⟩
  go_wp2
  exact ⟨rfl, rfl, hb⟩
 simp only [Act.put, sT, sS, sZ]
 refine GW.known _ rfl (fun hd hf => ?_) ?_
 ·go_wp2_with fail
  exact ⟨rfl, rfl, Below.refl _ _⟩
 simp only [Act.put, sT, sS, sZ]
 refine GW.known _ rfl (fun hd hf => ?_) ?_
 ·go_wp2_with fail
  exact ⟨rfl, rfl, Below.refl _ _⟩
 simp only [Act.put, sT, sS, sZ]
 refine GW.known _ rfl (fun hd hf => ?_) ?_
 ·go_wp2_with fail
  exact ⟨rfl, rfl, Below.refl _ _⟩
 simp only [Act.put, sT, sS, sZ]
 refine GW.known _ rfl (fun hd hf => ?_) ?_
 ·go_wp2_with fail
  refine (AD.out _).mono ?_
  rintro e u ⟨rfl, hb⟩
  go_wp2
  exact ⟨rfl, rfl, hb⟩
 simp only [Act.put, sT, sS, sZ]
 refine GW.known _ rfl (fun hd hf => ?_) ?_
 ·go_wp2_with (refine wpList_build_two rfl (.tmp 7) (.tmp 10) rfl _ _ _ BC.out rfl rfl ?_)
  exact ⟨rfl, rfl, Below.refl _ _⟩
 simp only [Act.put, sT, sS, sZ]
 refine GW.open rfl (fun hd hf => ?_) ?_
 ·have f9 : f 9 = false := (by cases h : f 9 with | false => rfl | true => exact absurd (Dn 9 h 8 (by decide)) (by rw [hf]; simp))
  have K := hid (hU.out.box f9)
  clear c0 c1
  go_wp2_with fail
  exact ⟨rfl, K.out⟩
 simp only [Act.put, sT, sS, sZ]
 refine GW.open rfl (fun hd hf => ?_) ?_
 ·have f8 := hd 8 (by decide)
  obtain ⟨b', e8, _, hz, _⟩ := hU.out.2 f8
  have K := hid (fun v => hU.out.put f8 hf e8 v)
  have hz' := hz hf
  have hi9 := chRow ⟨1 + k, n, 0, 0, 0, ⟨#[]⟩⟩
  clear hz c0 c1
  rw [e8]
  go_wp2_with (refine wpList_store_row rfl _ (.tmp 3) (.tmp 11) rfl _ _ rfl rfl _ _ hz' hi9.1 hi9.2.1 hi9.2.2 ?_)
  exact ⟨rfl, K.out _⟩
 simp only [Act.put]
 refine GW.nil (fun hall => ?_)
 obtain ⟨b', e8, hb8, _, hz⟩ := hU.out.2 (hall 8 (by omega))
 have K3 := hid (hz (hall 9 (by omega)))
 have QY := hid (Q0.out.trans (hU.out.1.mono Q0.out.size))
 have HBY := hid (HB.out.later hU.out.1)
 have HRY := hid (HR.out.later hU.out.1)
 have HB8 := hid (show W.heap.size ≠ b' ∧ W.heap.size + 1 ≠ b' ∧ W.heap.size ≤ b' from by
  have h := hb8
  have := HR.out.lt
  omega)
 rw [e8]
 clear c0 c1 hU Dn hall e8 hb8 hz HB HR hk1 hk2
 have hkk : k = 0 ∨ k = 1 ∨ k = 2 ∨ k = 3 := by omega
 clear j0 j1
 rcases hkk with rfl | rfl | rfl | rfl
 ·obtain ⟨m, hm, gm⟩ : ∃ m : Nat, pickN c 1000 = (m : Int) ∧ m < 1000 := by
   obtain ⟨h0, h1⟩ := pickN_range c 1000 (by decide)
   exact ⟨(pickN c 1000).toNat, by omega, by omega⟩
  have PPm := hid (PC.out 1000 (by decide) (by decide))
  rw [hm] at PPm
  have OFm := hid (show ∀ X, Calls Tryz.prog 27 #[.int .i64 (m : Int)] X (fun e w' => e = .returned (.agg #[.int .u64 (lim m 0), .int .u64 (lim m 1), .int .u64 (lim m 2), .int .u64 (lim m 3)]) ∧ Below X.heap.size X w') from fun X => by
   have h := refOf_ret (m : Int) (by unfold I64; omega) X
   rw [ofN_nat m] at h
   exact h)
  have Gm := hid (And.intro hm gm)
  clear hm gm
  have k0 : y.cell? ⟨b', 0, none⟩ = some (.int .i64 1) := by simpa using K3.out.ch.1
  have r2 := HBY.out.cell 2 _ rfl
  have r3 := HBY.out.cell 3 _ rfl
  go_wp2_with fail
  refine (PPm.out _).mono ?_
  rintro _ w1 ⟨rfl, hb⟩
  clear k0 r2 r3
  replace K3 := hid (K3.out.later hb)
  replace HBY := hid (HBY.out.later hb)
  replace HRY := hid (HRY.out.later hb)
  replace QY := hid (QY.out.trans (hb.mono QY.out.size))
  clear hb
  go_wp2_with fail
  refine (OFm.out _).mono ?_
  rintro _ w2 ⟨rfl, hb⟩
  replace K3 := hid (K3.out.later hb)
  replace HBY := hid (HBY.out.later hb)
  replace HRY := hid (HRY.out.later hb)
  replace QY := hid (QY.out.trans (hb.mono QY.out.size))
  clear hb
  obtain ⟨g0, g21, g22, g23, g24, g25, g26, g27, g28, g29, g30⟩ := K3.out.ch
  have z25 := K3.out.frozen 25
  have z26 := K3.out.frozen 26
  have z27 := K3.out.frozen 27
  have z28 := K3.out.frozen 28
  clear g0
  go_upto_region 11 with fail
  clear g21 g22 g23 g24 g25 g26 g27 g28 g29 g30 z25 z26 z27 z28
  have a1 := K3.out.chVal m
  have a2 := ((((HBY.out.other (p := ⟨b', 25, none⟩) HB8.out.1 (.int .u64 (lim m 0))).other (p := ⟨b', 26, none⟩) HB8.out.1 (.int .u64 (lim m 1))).other (p := ⟨b', 27, none⟩) HB8.out.1 (.int .u64 (lim m 2))).other (p := ⟨b', 28, none⟩) HB8.out.1 (.int .u64 (lim m 3)))
  have a3 := ((((HRY.out.other (p := ⟨b', 25, none⟩) HB8.out.2.1 (.int .u64 (lim m 0))).other (p := ⟨b', 26, none⟩) HB8.out.2.1 (.int .u64 (lim m 1))).other (p := ⟨b', 27, none⟩) HB8.out.2.1 (.int .u64 (lim m 2))).other (p := ⟨b', 28, none⟩) HB8.out.2.1 (.int .u64 (lim m 3)))
  have a4 := ((((QY.out.setCell (p := ⟨b', 25, none⟩) HB8.out.2.2 (.int .u64 (lim m 0))).setCell (p := ⟨b', 26, none⟩) HB8.out.2.2 (.int .u64 (lim m 1))).setCell (p := ⟨b', 27, none⟩) HB8.out.2.2 (.int .u64 (lim m 2))).setCell (p := ⟨b', 28, none⟩) HB8.out.2.2 (.int .u64 (lim m 3)))
  obtain ⟨PZ, hPZ⟩ : ∃ PZ, ((((w2.setCell ⟨b', 25, none⟩ (.int .u64 (lim m 0))).setCell ⟨b', 26, none⟩ (.int .u64 (lim m 1))).setCell ⟨b', 27, none⟩ (.int .u64 (lim m 2))).setCell ⟨b', 28, none⟩ (.int .u64 (lim m 3))) = PZ := ⟨_, rfl⟩
  rw [hPZ] at a1 a2 a3 a4 ⊢
  clear hPZ
  replace K3 := hid a1
  replace HBY := hid a2
  replace HRY := hid a3
  replace QY := hid a4
  clear a1 a2 a3 a4
  have LL := K3.out.chLoad
  have hi9 := chRow ({ (⟨1 + 0, n, 0, 0, 0, ⟨#[]⟩⟩ : Ch) with val := m })
  have hF : Has (PZ.setRow (W.heap.size + 1) (chC ({ (⟨1 + 0, n, 0, 0, 0, ⟨#[]⟩⟩ : Ch) with val := m }))) (W.heap.size + 1) 33 (chC ({ (⟨1 + 0, n, 0, 0, 0, ⟨#[]⟩⟩ : Ch) with val := m })) := setRow_heap _ _ _ _ _ _ HRY.out
  have HFF := hid hF
  have hz9 := HRY.out
  have qF := hid (below_rowL QY.out (g := W.heap.size + 1) (by omega) (chC ({ (⟨1 + 0, n, 0, 0, 0, ⟨#[]⟩⟩ : Ch) with val := m })))
  clear hF
  go_wp2_with (first | (refine wpList_load_known rfl _ (.tmp 3) rfl _ rfl _ LL ?_) | (refine wpList_store_row rfl _ (.tmp 2) (.tmp 46) rfl _ _ rfl rfl _ _ hz9 hi9.1 hi9.2.1 hi9.2.2 ?_))
  try simp only [Exit.inBlock, Exit.then]
  refine bodyPost_ret (results_cell_row rfl _ _ (W.heap.size + 1) 33 _ (0, 0) _ rfl HFF.out Tryz.underlying33 rfl hi9.1) rfl ?_
  exact ⟨by rw [HCH.out]; rw [if_pos trivial, Gm.out.1]; rfl, qF.out⟩
 ·obtain ⟨m, hm⟩ : ∃ m, pickN c 4 = m := ⟨_, rfl⟩
  have PPm := hid (PC.out 4 (by decide) (by decide))
  rw [hm] at PPm
  have Gm := hid hm
  clear hm
  have k0 : y.cell? ⟨b', 0, none⟩ = some (.int .i64 2) := by simpa using K3.out.ch.1
  have r2 := HBY.out.cell 2 _ rfl
  have r3 := HBY.out.cell 3 _ rfl
  go_wp2_with fail
  refine (PPm.out _).mono ?_
  rintro _ w1 ⟨rfl, hb⟩
  clear k0 r2 r3
  replace K3 := hid (K3.out.later hb)
  replace HBY := hid (HBY.out.later hb)
  replace HRY := hid (HRY.out.later hb)
  replace QY := hid (QY.out.trans (hb.mono QY.out.size))
  clear hb
  obtain ⟨g0, g21, g22, g23, g24, g25, g26, g27, g28, g29, g30⟩ := K3.out.ch
  have z29 := K3.out.frozen 29
  clear g0
  go_upto_region 11 with fail
  clear g21 g22 g23 g24 g25 g26 g27 g28 g29 g30 z29
  have a1 := K3.out.chNon m
  have a2 := (HBY.out.other (p := ⟨b', 29, none⟩) HB8.out.1 (.int .i64 m))
  have a3 := (HRY.out.other (p := ⟨b', 29, none⟩) HB8.out.2.1 (.int .i64 m))
  have a4 := (QY.out.setCell (p := ⟨b', 29, none⟩) HB8.out.2.2 (.int .i64 m))
  obtain ⟨PZ, hPZ⟩ : ∃ PZ, (w1.setCell ⟨b', 29, none⟩ (.int .i64 m)) = PZ := ⟨_, rfl⟩
  rw [hPZ] at a1 a2 a3 a4 ⊢
  clear hPZ
  replace K3 := hid a1
  replace HBY := hid a2
  replace HRY := hid a3
  replace QY := hid a4
  clear a1 a2 a3 a4
  have LL := K3.out.chLoad
  have hi9 := chRow ({ (⟨1 + 1, n, 0, 0, 0, ⟨#[]⟩⟩ : Ch) with non := m })
  have hF : Has (PZ.setRow (W.heap.size + 1) (chC ({ (⟨1 + 1, n, 0, 0, 0, ⟨#[]⟩⟩ : Ch) with non := m }))) (W.heap.size + 1) 33 (chC ({ (⟨1 + 1, n, 0, 0, 0, ⟨#[]⟩⟩ : Ch) with non := m })) := setRow_heap _ _ _ _ _ _ HRY.out
  have HFF := hid hF
  have hz9 := HRY.out
  have qF := hid (below_rowL QY.out (g := W.heap.size + 1) (by omega) (chC ({ (⟨1 + 1, n, 0, 0, 0, ⟨#[]⟩⟩ : Ch) with non := m })))
  clear hF
  go_wp2_with (first | (refine wpList_load_known rfl _ (.tmp 3) rfl _ rfl _ LL ?_) | (refine wpList_store_row rfl _ (.tmp 2) (.tmp 46) rfl _ _ rfl rfl _ _ hz9 hi9.1 hi9.2.1 hi9.2.2 ?_))
  try simp only [Exit.inBlock, Exit.then]
  refine bodyPost_ret (results_cell_row rfl _ _ (W.heap.size + 1) 33 _ (0, 0) _ rfl HFF.out Tryz.underlying33 rfl hi9.1) rfl ?_
  exact ⟨by rw [HCH.out]; rw [if_neg (by decide), if_pos trivial, Gm.out]; rfl, qF.out⟩
 ·obtain ⟨m, hm, m0, m1⟩ : ∃ m, pickN c 4 = m ∧ 0 ≤ m ∧ m < 4 := by
   obtain ⟨h0, h1⟩ := pickN_range c 4 (by decide)
   exact ⟨_, rfl, h0, h1⟩
  have PPm := hid (PC.out 4 (by decide) (by decide))
  rw [hm] at PPm
  have Gm := hid hm
  clear hm
  have k0 : y.cell? ⟨b', 0, none⟩ = some (.int .i64 3) := by simpa using K3.out.ch.1
  obtain ⟨U1, hU1, hs, hq⟩ := newBox y 9 #[.string { data := #[] }, .string { data := #[0] }, .string { data := #[96, 1] }, .string { data := #[99, 111, 100, 101] }]
  replace K3 := hid (K3.out.later hq)
  replace HBY := hid (HBY.out.later hq)
  replace HRY := hid (HRY.out.later hq)
  replace QY := hid (QY.out.trans (hq.mono QY.out.size))
  have HSS := hid hs
  clear hs hq
  have r2 := HBY.out.cell 2 _ rfl
  go_wp2_with fail
  clear k0 r2 hU1
  refine (PPm.out _).mono ?_
  rintro _ w1 ⟨rfl, hb⟩
  replace HSS := hid (HSS.out.later hb)
  replace K3 := hid (K3.out.later hb)
  replace HBY := hid (HBY.out.later hb)
  replace HRY := hid (HRY.out.later hb)
  replace QY := hid (QY.out.trans (hb.mono QY.out.size))
  clear hb PPm
  have hmm : m = 0 ∨ m = 1 ∨ m = 2 ∨ m = 3 := by omega
  clear m0 m1
  rcases hmm with rfl | rfl | rfl | rfl
  ·have cs := HSS.out.cell 0 _ rfl
   obtain ⟨g0, g21, g22, g23, g24, g25, g26, g27, g28, g29, g30⟩ := K3.out.ch
   have z30 := K3.out.frozen 30
   clear g0
   go_upto_region 11 with fail
   clear g21 g22 g23 g24 g25 g26 g27 g28 g29 g30 z30 cs
   have a1 := K3.out.chCode { data := #[] }
   have a2 := (HBY.out.other (p := ⟨b', 30, none⟩) HB8.out.1 (.string { data := #[] }))
   have a3 := (HRY.out.other (p := ⟨b', 30, none⟩) HB8.out.2.1 (.string { data := #[] }))
   have a4 := (QY.out.setCell (p := ⟨b', 30, none⟩) HB8.out.2.2 (.string { data := #[] }))
   obtain ⟨PZ, hPZ⟩ : ∃ PZ, (w1.setCell ⟨b', 30, none⟩ (.string { data := #[] })) = PZ := ⟨_, rfl⟩
   rw [hPZ] at a1 a2 a3 a4 ⊢
   clear hPZ
   replace K3 := hid a1
   replace HBY := hid a2
   replace HRY := hid a3
   replace QY := hid a4
   clear a1 a2 a3 a4
   have LL := K3.out.chLoad
   have hi9 := chRow ({ (⟨1 + 2, n, 0, 0, 0, ⟨#[]⟩⟩ : Ch) with code := { data := #[] } })
   have hF : Has (PZ.setRow (W.heap.size + 1) (chC ({ (⟨1 + 2, n, 0, 0, 0, ⟨#[]⟩⟩ : Ch) with code := { data := #[] } }))) (W.heap.size + 1) 33 (chC ({ (⟨1 + 2, n, 0, 0, 0, ⟨#[]⟩⟩ : Ch) with code := { data := #[] } })) := setRow_heap _ _ _ _ _ _ HRY.out
   have HFF := hid hF
   have hz9 := HRY.out
   have qF := hid (below_rowL QY.out (g := W.heap.size + 1) (by omega) (chC ({ (⟨1 + 2, n, 0, 0, 0, ⟨#[]⟩⟩ : Ch) with code := { data := #[] } })))
   clear hF
   go_wp2_with (first | (refine wpList_load_known rfl _ (.tmp 3) rfl _ rfl _ LL ?_) | (refine wpList_store_row rfl _ (.tmp 2) (.tmp 46) rfl _ _ rfl rfl _ _ hz9 hi9.1 hi9.2.1 hi9.2.2 ?_))
   try simp only [Exit.inBlock, Exit.then]
   refine bodyPost_ret (results_cell_row rfl _ _ (W.heap.size + 1) 33 _ (0, 0) _ rfl HFF.out Tryz.underlying33 rfl hi9.1) rfl ?_
   exact ⟨by rw [HCH.out]; rw [if_neg (by decide), if_neg (by decide), if_pos trivial, Gm.out]; rfl, qF.out⟩
  ·have cs := HSS.out.cell 1 _ rfl
   obtain ⟨g0, g21, g22, g23, g24, g25, g26, g27, g28, g29, g30⟩ := K3.out.ch
   have z30 := K3.out.frozen 30
   clear g0
   go_upto_region 11 with fail
   clear g21 g22 g23 g24 g25 g26 g27 g28 g29 g30 z30 cs
   have a1 := K3.out.chCode { data := #[0] }
   have a2 := (HBY.out.other (p := ⟨b', 30, none⟩) HB8.out.1 (.string { data := #[0] }))
   have a3 := (HRY.out.other (p := ⟨b', 30, none⟩) HB8.out.2.1 (.string { data := #[0] }))
   have a4 := (QY.out.setCell (p := ⟨b', 30, none⟩) HB8.out.2.2 (.string { data := #[0] }))
   obtain ⟨PZ, hPZ⟩ : ∃ PZ, (w1.setCell ⟨b', 30, none⟩ (.string { data := #[0] })) = PZ := ⟨_, rfl⟩
   rw [hPZ] at a1 a2 a3 a4 ⊢
   clear hPZ
   replace K3 := hid a1
   replace HBY := hid a2
   replace HRY := hid a3
   replace QY := hid a4
   clear a1 a2 a3 a4
   have LL := K3.out.chLoad
   have hi9 := chRow ({ (⟨1 + 2, n, 0, 0, 0, ⟨#[]⟩⟩ : Ch) with code := { data := #[0] } })
   have hF : Has (PZ.setRow (W.heap.size + 1) (chC ({ (⟨1 + 2, n, 0, 0, 0, ⟨#[]⟩⟩ : Ch) with code := { data := #[0] } }))) (W.heap.size + 1) 33 (chC ({ (⟨1 + 2, n, 0, 0, 0, ⟨#[]⟩⟩ : Ch) with code := { data := #[0] } })) := setRow_heap _ _ _ _ _ _ HRY.out
   have HFF := hid hF
   have hz9 := HRY.out
   have qF := hid (below_rowL QY.out (g := W.heap.size + 1) (by omega) (chC ({ (⟨1 + 2, n, 0, 0, 0, ⟨#[]⟩⟩ : Ch) with code := { data := #[0] } })))
   clear hF
   go_wp2_with (first | (refine wpList_load_known rfl _ (.tmp 3) rfl _ rfl _ LL ?_) | (refine wpList_store_row rfl _ (.tmp 2) (.tmp 46) rfl _ _ rfl rfl _ _ hz9 hi9.1 hi9.2.1 hi9.2.2 ?_))
   try simp only [Exit.inBlock, Exit.then]
   refine bodyPost_ret (results_cell_row rfl _ _ (W.heap.size + 1) 33 _ (0, 0) _ rfl HFF.out Tryz.underlying33 rfl hi9.1) rfl ?_
   exact ⟨by rw [HCH.out]; rw [if_neg (by decide), if_neg (by decide), if_pos trivial, Gm.out]; rfl, qF.out⟩
  ·have cs := HSS.out.cell 2 _ rfl
   obtain ⟨g0, g21, g22, g23, g24, g25, g26, g27, g28, g29, g30⟩ := K3.out.ch
   have z30 := K3.out.frozen 30
   clear g0
   go_upto_region 11 with fail
   clear g21 g22 g23 g24 g25 g26 g27 g28 g29 g30 z30 cs
   have a1 := K3.out.chCode { data := #[96, 1] }
   have a2 := (HBY.out.other (p := ⟨b', 30, none⟩) HB8.out.1 (.string { data := #[96, 1] }))
   have a3 := (HRY.out.other (p := ⟨b', 30, none⟩) HB8.out.2.1 (.string { data := #[96, 1] }))
   have a4 := (QY.out.setCell (p := ⟨b', 30, none⟩) HB8.out.2.2 (.string { data := #[96, 1] }))
   obtain ⟨PZ, hPZ⟩ : ∃ PZ, (w1.setCell ⟨b', 30, none⟩ (.string { data := #[96, 1] })) = PZ := ⟨_, rfl⟩
   rw [hPZ] at a1 a2 a3 a4 ⊢
   clear hPZ
   replace K3 := hid a1
   replace HBY := hid a2
   replace HRY := hid a3
   replace QY := hid a4
   clear a1 a2 a3 a4
   have LL := K3.out.chLoad
   have hi9 := chRow ({ (⟨1 + 2, n, 0, 0, 0, ⟨#[]⟩⟩ : Ch) with code := { data := #[96, 1] } })
   have hF : Has (PZ.setRow (W.heap.size + 1) (chC ({ (⟨1 + 2, n, 0, 0, 0, ⟨#[]⟩⟩ : Ch) with code := { data := #[96, 1] } }))) (W.heap.size + 1) 33 (chC ({ (⟨1 + 2, n, 0, 0, 0, ⟨#[]⟩⟩ : Ch) with code := { data := #[96, 1] } })) := setRow_heap _ _ _ _ _ _ HRY.out
   have HFF := hid hF
   have hz9 := HRY.out
   have qF := hid (below_rowL QY.out (g := W.heap.size + 1) (by omega) (chC ({ (⟨1 + 2, n, 0, 0, 0, ⟨#[]⟩⟩ : Ch) with code := { data := #[96, 1] } })))
   clear hF
   go_wp2_with (first | (refine wpList_load_known rfl _ (.tmp 3) rfl _ rfl _ LL ?_) | (refine wpList_store_row rfl _ (.tmp 2) (.tmp 46) rfl _ _ rfl rfl _ _ hz9 hi9.1 hi9.2.1 hi9.2.2 ?_))
   try simp only [Exit.inBlock, Exit.then]
   refine bodyPost_ret (results_cell_row rfl _ _ (W.heap.size + 1) 33 _ (0, 0) _ rfl HFF.out Tryz.underlying33 rfl hi9.1) rfl ?_
   exact ⟨by rw [HCH.out]; rw [if_neg (by decide), if_neg (by decide), if_pos trivial, Gm.out]; rfl, qF.out⟩
  ·have cs := HSS.out.cell 3 _ rfl
   obtain ⟨g0, g21, g22, g23, g24, g25, g26, g27, g28, g29, g30⟩ := K3.out.ch
   have z30 := K3.out.frozen 30
   clear g0
   go_upto_region 11 with fail
   clear g21 g22 g23 g24 g25 g26 g27 g28 g29 g30 z30 cs
   have a1 := K3.out.chCode { data := #[99, 111, 100, 101] }
   have a2 := (HBY.out.other (p := ⟨b', 30, none⟩) HB8.out.1 (.string { data := #[99, 111, 100, 101] }))
   have a3 := (HRY.out.other (p := ⟨b', 30, none⟩) HB8.out.2.1 (.string { data := #[99, 111, 100, 101] }))
   have a4 := (QY.out.setCell (p := ⟨b', 30, none⟩) HB8.out.2.2 (.string { data := #[99, 111, 100, 101] }))
   obtain ⟨PZ, hPZ⟩ : ∃ PZ, (w1.setCell ⟨b', 30, none⟩ (.string { data := #[99, 111, 100, 101] })) = PZ := ⟨_, rfl⟩
   rw [hPZ] at a1 a2 a3 a4 ⊢
   clear hPZ
   replace K3 := hid a1
   replace HBY := hid a2
   replace HRY := hid a3
   replace QY := hid a4
   clear a1 a2 a3 a4
   have LL := K3.out.chLoad
   have hi9 := chRow ({ (⟨1 + 2, n, 0, 0, 0, ⟨#[]⟩⟩ : Ch) with code := { data := #[99, 111, 100, 101] } })
   have hF : Has (PZ.setRow (W.heap.size + 1) (chC ({ (⟨1 + 2, n, 0, 0, 0, ⟨#[]⟩⟩ : Ch) with code := { data := #[99, 111, 100, 101] } }))) (W.heap.size + 1) 33 (chC ({ (⟨1 + 2, n, 0, 0, 0, ⟨#[]⟩⟩ : Ch) with code := { data := #[99, 111, 100, 101] } })) := setRow_heap _ _ _ _ _ _ HRY.out
   have HFF := hid hF
   have hz9 := HRY.out
   have qF := hid (below_rowL QY.out (g := W.heap.size + 1) (by omega) (chC ({ (⟨1 + 2, n, 0, 0, 0, ⟨#[]⟩⟩ : Ch) with code := { data := #[99, 111, 100, 101] } })))
   clear hF
   go_wp2_with (first | (refine wpList_load_known rfl _ (.tmp 3) rfl _ rfl _ LL ?_) | (refine wpList_store_row rfl _ (.tmp 2) (.tmp 46) rfl _ _ rfl rfl _ _ hz9 hi9.1 hi9.2.1 hi9.2.2 ?_))
   try simp only [Exit.inBlock, Exit.then]
   refine bodyPost_ret (results_cell_row rfl _ _ (W.heap.size + 1) 33 _ (0, 0) _ rfl HFF.out Tryz.underlying33 rfl hi9.1) rfl ?_
   exact ⟨by rw [HCH.out]; rw [if_neg (by decide), if_neg (by decide), if_pos trivial, Gm.out]; rfl, qF.out⟩
 ·obtain ⟨m, hm, gm⟩ : ∃ m : Nat, pickN c 5 = (m : Int) ∧ m < 5 := by
   obtain ⟨h0, h1⟩ := pickN_range c 5 (by decide)
   exact ⟨(pickN c 5).toNat, by omega, by omega⟩
  have PPm := hid (PC.out 5 (by decide) (by decide))
  rw [hm] at PPm
  have OFm := hid (show ∀ X, Calls Tryz.prog 27 #[.int .i64 (m : Int)] X (fun e w' => e = .returned (.agg #[.int .u64 (lim m 0), .int .u64 (lim m 1), .int .u64 (lim m 2), .int .u64 (lim m 3)]) ∧ Below X.heap.size X w') from fun X => by
   have h := refOf_ret (m : Int) (by unfold I64; omega) X
   rw [ofN_nat m] at h
   exact h)
  have Gm := hid (And.intro hm gm)
  clear hm gm
  obtain ⟨p, hp, gp⟩ : ∃ p : Nat, pickN d 3 = (p : Int) ∧ p < 3 := by
   obtain ⟨h0, h1⟩ := pickN_range d 3 (by decide)
   exact ⟨(pickN d 3).toNat, by omega, by omega⟩
  have PPp := hid (PD.out)
  rw [hp] at PPp
  have OFp := hid (show ∀ X, Calls Tryz.prog 27 #[.int .i64 (p : Int)] X (fun e w' => e = .returned (.agg #[.int .u64 (lim p 0), .int .u64 (lim p 1), .int .u64 (lim p 2), .int .u64 (lim p 3)]) ∧ Below X.heap.size X w') from fun X => by
   have h := refOf_ret (p : Int) (by unfold I64; omega) X
   rw [ofN_nat p] at h
   exact h)
  have Gp := hid (And.intro hp gp)
  clear hp gp
  have k0 : y.cell? ⟨b', 0, none⟩ = some (.int .i64 4) := by simpa using K3.out.ch.1
  have r2 := HBY.out.cell 2 _ rfl
  have r3 := HBY.out.cell 3 _ rfl
  go_wp2_with fail
  refine (PPm.out _).mono ?_
  rintro _ w1 ⟨rfl, hb⟩
  clear k0 r2 r3
  replace K3 := hid (K3.out.later hb)
  replace HBY := hid (HBY.out.later hb)
  replace HRY := hid (HRY.out.later hb)
  replace QY := hid (QY.out.trans (hb.mono QY.out.size))
  clear hb
  go_wp2_with fail
  refine (OFm.out _).mono ?_
  rintro _ w2 ⟨rfl, hb⟩
  replace K3 := hid (K3.out.later hb)
  replace HBY := hid (HBY.out.later hb)
  replace HRY := hid (HRY.out.later hb)
  replace QY := hid (QY.out.trans (hb.mono QY.out.size))
  clear hb
  obtain ⟨g0, g21, g22, g23, g24, g25, g26, g27, g28, g29, g30⟩ := K3.out.ch
  have z21 := K3.out.frozen 21
  have z22 := K3.out.frozen 22
  have z23 := K3.out.frozen 23
  have z24 := K3.out.frozen 24
  clear g0
  go_upto_region 4 with fail
  clear g21 g22 g23 g24 g25 g26 g27 g28 g29 g30 z21 z22 z23 z24
  have a1 := K3.out.chKey m
  have a2 := ((((HBY.out.other (p := ⟨b', 21, none⟩) HB8.out.1 (.int .u64 (lim m 0))).other (p := ⟨b', 22, none⟩) HB8.out.1 (.int .u64 (lim m 1))).other (p := ⟨b', 23, none⟩) HB8.out.1 (.int .u64 (lim m 2))).other (p := ⟨b', 24, none⟩) HB8.out.1 (.int .u64 (lim m 3)))
  have a3 := ((((HRY.out.other (p := ⟨b', 21, none⟩) HB8.out.2.1 (.int .u64 (lim m 0))).other (p := ⟨b', 22, none⟩) HB8.out.2.1 (.int .u64 (lim m 1))).other (p := ⟨b', 23, none⟩) HB8.out.2.1 (.int .u64 (lim m 2))).other (p := ⟨b', 24, none⟩) HB8.out.2.1 (.int .u64 (lim m 3)))
  have a4 := ((((QY.out.setCell (p := ⟨b', 21, none⟩) HB8.out.2.2 (.int .u64 (lim m 0))).setCell (p := ⟨b', 22, none⟩) HB8.out.2.2 (.int .u64 (lim m 1))).setCell (p := ⟨b', 23, none⟩) HB8.out.2.2 (.int .u64 (lim m 2))).setCell (p := ⟨b', 24, none⟩) HB8.out.2.2 (.int .u64 (lim m 3)))
  obtain ⟨PZ, hPZ⟩ : ∃ PZ, ((((w2.setCell ⟨b', 21, none⟩ (.int .u64 (lim m 0))).setCell ⟨b', 22, none⟩ (.int .u64 (lim m 1))).setCell ⟨b', 23, none⟩ (.int .u64 (lim m 2))).setCell ⟨b', 24, none⟩ (.int .u64 (lim m 3))) = PZ := ⟨_, rfl⟩
  rw [hPZ] at a1 a2 a3 a4 ⊢
  clear hPZ
  replace K3 := hid a1
  replace HBY := hid a2
  replace HRY := hid a3
  replace QY := hid a4
  clear a1 a2 a3 a4
  have r3 := HBY.out.cell 3 _ rfl
  go_wp2_with fail
  refine (PPp.out _).mono ?_
  rintro _ w3 ⟨rfl, hb⟩
  clear r3
  replace K3 := hid (K3.out.later hb)
  replace HBY := hid (HBY.out.later hb)
  replace HRY := hid (HRY.out.later hb)
  replace QY := hid (QY.out.trans (hb.mono QY.out.size))
  clear hb
  go_wp2_with fail
  refine (OFp.out _).mono ?_
  rintro _ w4 ⟨rfl, hb⟩
  replace K3 := hid (K3.out.later hb)
  replace HBY := hid (HBY.out.later hb)
  replace HRY := hid (HRY.out.later hb)
  replace QY := hid (QY.out.trans (hb.mono QY.out.size))
  clear hb
  obtain ⟨g0, g21, g22, g23, g24, g25, g26, g27, g28, g29, g30⟩ := K3.out.ch
  have z25 := K3.out.frozen 25
  have z26 := K3.out.frozen 26
  have z27 := K3.out.frozen 27
  have z28 := K3.out.frozen 28
  clear g0
  go_upto_region 11 with fail
  clear g21 g22 g23 g24 g25 g26 g27 g28 g29 g30 z25 z26 z27 z28
  have a1 := K3.out.chVal p
  have a2 := ((((HBY.out.other (p := ⟨b', 25, none⟩) HB8.out.1 (.int .u64 (lim p 0))).other (p := ⟨b', 26, none⟩) HB8.out.1 (.int .u64 (lim p 1))).other (p := ⟨b', 27, none⟩) HB8.out.1 (.int .u64 (lim p 2))).other (p := ⟨b', 28, none⟩) HB8.out.1 (.int .u64 (lim p 3)))
  have a3 := ((((HRY.out.other (p := ⟨b', 25, none⟩) HB8.out.2.1 (.int .u64 (lim p 0))).other (p := ⟨b', 26, none⟩) HB8.out.2.1 (.int .u64 (lim p 1))).other (p := ⟨b', 27, none⟩) HB8.out.2.1 (.int .u64 (lim p 2))).other (p := ⟨b', 28, none⟩) HB8.out.2.1 (.int .u64 (lim p 3)))
  have a4 := ((((QY.out.setCell (p := ⟨b', 25, none⟩) HB8.out.2.2 (.int .u64 (lim p 0))).setCell (p := ⟨b', 26, none⟩) HB8.out.2.2 (.int .u64 (lim p 1))).setCell (p := ⟨b', 27, none⟩) HB8.out.2.2 (.int .u64 (lim p 2))).setCell (p := ⟨b', 28, none⟩) HB8.out.2.2 (.int .u64 (lim p 3)))
  obtain ⟨PY, hPY⟩ : ∃ PY, ((((w4.setCell ⟨b', 25, none⟩ (.int .u64 (lim p 0))).setCell ⟨b', 26, none⟩ (.int .u64 (lim p 1))).setCell ⟨b', 27, none⟩ (.int .u64 (lim p 2))).setCell ⟨b', 28, none⟩ (.int .u64 (lim p 3))) = PY := ⟨_, rfl⟩
  rw [hPY] at a1 a2 a3 a4 ⊢
  clear hPY
  replace K3 := hid a1
  replace HBY := hid a2
  replace HRY := hid a3
  replace QY := hid a4
  clear a1 a2 a3 a4
  have LL := K3.out.chLoad
  have hi9 := chRow ({ ({ (⟨1 + 3, n, 0, 0, 0, ⟨#[]⟩⟩ : Ch) with key := m } : Ch) with val := p })
  have hF : Has (PY.setRow (W.heap.size + 1) (chC ({ ({ (⟨1 + 3, n, 0, 0, 0, ⟨#[]⟩⟩ : Ch) with key := m } : Ch) with val := p }))) (W.heap.size + 1) 33 (chC ({ ({ (⟨1 + 3, n, 0, 0, 0, ⟨#[]⟩⟩ : Ch) with key := m } : Ch) with val := p })) := setRow_heap _ _ _ _ _ _ HRY.out
  have HFF := hid hF
  have hz9 := HRY.out
  have qF := hid (below_rowL QY.out (g := W.heap.size + 1) (by omega) (chC ({ ({ (⟨1 + 3, n, 0, 0, 0, ⟨#[]⟩⟩ : Ch) with key := m } : Ch) with val := p })))
  clear hF
  go_wp2_with (first | (refine wpList_load_known rfl _ (.tmp 3) rfl _ rfl _ LL ?_) | (refine wpList_store_row rfl _ (.tmp 2) (.tmp 46) rfl _ _ rfl rfl _ _ hz9 hi9.1 hi9.2.1 hi9.2.2 ?_))
  try simp only [Exit.inBlock, Exit.then]
  refine bodyPost_ret (results_cell_row rfl _ _ (W.heap.size + 1) 33 _ (0, 0) _ rfl HFF.out Tryz.underlying33 rfl hi9.1) rfl ?_
  exact ⟨by rw [HCH.out]; rw [if_neg (by decide), if_neg (by decide), if_neg (by decide), Gm.out.1, Gp.out.1]; rfl, qF.out⟩
end
section
def putL (l : List Sl) (x : Sl) : List Sl := mergeL l [x]
def putsL (a l : List Sl) : List Sl := l.foldl putL a
def Apart (l : List Sl) : Prop := l.Pairwise (fun x y => x.1 ≠ y.1)
theorem Rise.apart {l : List Sl} (h : Rise l) : Apart l := h.imp (fun h => Nat.ne_of_lt h)
theorem putL_kept {a : List Sl} (ha : Rise a) (x : Sl) : Kept (putL a x) := mergeL_kept ha (by unfold Rise; simp)
theorem putsL_kept {a : List Sl} (ha : Kept a) (l : List Sl) : Kept (putsL a l) := by
 induction l generalizing a with
 | nil => exact ha
 | cons x r ih => exact ih (putL_kept ha.1 x)
theorem look_putL {a : List Sl} (ha : Kept a) (x : Sl) (k : Nat) : look (putL a x) k = if x.1 = k then x.2 else look a k := by
 unfold putL
 rw [lk_merge ha (by unfold Rise; simp), lk, lk]
 by_cases h : x.1 = k
 ·rw [if_pos h, if_pos h]
 ·rw [if_neg h, if_neg h]
theorem look_putsL {a : List Sl} (ha : Kept a) {l : List Sl} (hl : Apart l) (k : Nat) : look (putsL a l) k = match lk l k with | some v => v | none => look a k := by
 induction l generalizing a with
 | nil => rfl
 | cons x r ih =>
  have h1 := List.pairwise_cons.1 hl
  have e := ih (putL_kept ha.1 x) h1.2
  rw [show putsL a (x :: r) = putsL (putL a x) r from rfl, e, lk, look_putL ha]
  by_cases h : x.1 = k
  ·rw [if_pos h, if_pos h, lk_none (fun y hy e => h1.1 y hy (h.trans e.symm))]
  ·rw [if_neg h, if_neg h]
theorem putsL_merge {a b : List Sl} (ha : Kept a) (hb : Rise b) : putsL a b = mergeL a b :=
 kept_ext (putsL_kept ha b) (mergeL_kept ha.1 hb) (fun k => by rw [look_putsL ha hb.apart, lk_merge ha hb]; cases lk b k <;> rfl)
theorem putsL_snoc (a l : List Sl) (x : Sl) : putsL a (l ++ [x]) = putL (putsL a l) x := by
 unfold putsL
 rw [List.foldl_append]
 rfl
theorem putsL_len (a l : List Sl) : (putsL a l).length ≤ a.length + l.length := by
 induction l generalizing a with
 | nil => exact Nat.le_refl _
 | cons x r ih =>
  have h1 := ih (putL a x)
  have h2 : (putL a x).length ≤ a.length + 1 := Nat.le_trans (listF_len _ _) (bothL_len a [x])
  rw [show putsL a (x :: r) = putsL (putL a x) r from rfl, List.length_cons]
  omega
end
end Go.Proofs.YtkicmbdjihjgfaaGreatDoor
