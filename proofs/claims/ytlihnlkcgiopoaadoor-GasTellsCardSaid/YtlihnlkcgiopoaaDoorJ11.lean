/- Part. -/
import Derived.Deep.MidRow
import Derived.Deep.WholeRow
import Derived.Test.YtlihnlkcgiopoaaDoorJ08
import Derived.Test.YtlihnlkcgiopoaaDoorJ04
import Derived.Test.YtlihnlkcgiopoaaDoorJ10
import Derived.Test.YtlihnlkcgiopoaaDoorJ03
set_option maxRecDepth 100000
set_option maxHeartbeats 16000000
namespace Go.Proofs.YtlihnlkcgiopoaaDoor
section
open Go Go.RowKit
attribute [local go_sem] Oper.semAt_some Grows wide_fn
theorem below_rowL {B g : Nat} {w0 w : World} (hb : Below B w0 w) (hBg : B ≤ g) (cs : Array Value) : Below B w0 (w.setRow g cs) :=
 hb.trans ⟨rfl, rfl, rfl, by simp [World.setRow], fun k hk => setRow_other w g k cs (by omega)⟩
theorem pick8_ret (c : Int) (hc : I64 c) (m : Int) (hm : 0 < m) (hm2 : m ≤ 4611686018427387903) : Ret Tryd.prog 90 #[.int .i64 c, .int .i64 m] (.int .i64 (pickN c m)) := by
 refine Ret.of_same fun w => ?_
 unfold I64 at hc
 unfold pickN
 by_cases h : c < 0
 ·rw [if_pos h]
  have h0 : (0 : Int) ≤ -(c + 1) := by omega
  have h1 : -(c + 1) < 9223372036854775808 := by omega
  have q0 := Int.emod_nonneg (-(c + 1)) (show m ≠ 0 by omega)
  have q1 := Int.emod_lt_of_pos (-(c + 1)) hm
  have e := Int.tmod_eq_emod_of_nonneg h0 (b := m)
  go_enter Tryd.func90, Tryd.ntmps90
  go_wp2
  go_ret
  exact ⟨rfl, rfl⟩
 ·rw [if_neg h]
  have q0 := Int.emod_nonneg c (show m ≠ 0 by omega)
  have q1 := Int.emod_lt_of_pos c hm
  have e := Int.tmod_eq_emod_of_nonneg (show 0 ≤ c by omega) (b := m)
  go_enter Tryd.func90, Tryd.ntmps90
  go_wp2
  go_ret
  exact ⟨rfl, rfl⟩
def adrN (k : Int) : Nat := k.toNat + (if 5 < k then 256 ^ 19 else 0)
theorem adrN_lt {k : Int} (h : k < 9) : adrN k < 256 ^ 20 := by
 unfold adrN
 split <;> omega
theorem adrN_low (m : Nat) (h : m ≤ 5) : adC (adrN (m : Int)) = #[.int .u8 0, .int .u8 0, .int .u8 0, .int .u8 0, .int .u8 0, .int .u8 0, .int .u8 0, .int .u8 0, .int .u8 0, .int .u8 0, .int .u8 0, .int .u8 0, .int .u8 0, .int .u8 0, .int .u8 0, .int .u8 0, .int .u8 0, .int .u8 0, .int .u8 0, .int .u8 (m : Int)] := by
 have e : adrN (m : Int) = m := by unfold adrN; rw [if_neg (by omega)]; omega
 rw [e]
 have h19 : adB m 19 = m := by unfold adB; omega
 have hj : ∀ j, j < 19 → adB m j = 0 := fun j hj => by
  unfold adB
  rw [Nat.div_eq_of_lt (Nat.lt_of_lt_of_le (show m < 256 by omega) (Nat.le_trans (by decide : 256 ≤ 256 ^ 1) (Nat.pow_le_pow_right (by decide) (by omega))))]
 have r : adC m = #[.int .u8 ((adB m 0 : Nat) : Int), .int .u8 ((adB m 1 : Nat) : Int), .int .u8 ((adB m 2 : Nat) : Int), .int .u8 ((adB m 3 : Nat) : Int), .int .u8 ((adB m 4 : Nat) : Int), .int .u8 ((adB m 5 : Nat) : Int), .int .u8 ((adB m 6 : Nat) : Int), .int .u8 ((adB m 7 : Nat) : Int), .int .u8 ((adB m 8 : Nat) : Int), .int .u8 ((adB m 9 : Nat) : Int), .int .u8 ((adB m 10 : Nat) : Int), .int .u8 ((adB m 11 : Nat) : Int), .int .u8 ((adB m 12 : Nat) : Int), .int .u8 ((adB m 13 : Nat) : Int), .int .u8 ((adB m 14 : Nat) : Int), .int .u8 ((adB m 15 : Nat) : Int), .int .u8 ((adB m 16 : Nat) : Int), .int .u8 ((adB m 17 : Nat) : Int), .int .u8 ((adB m 18 : Nat) : Int), .int .u8 ((adB m 19 : Nat) : Int)] := rfl
 rw [r, h19, hj 0 (by decide), hj 1 (by decide), hj 2 (by decide), hj 3 (by decide), hj 4 (by decide), hj 5 (by decide), hj 6 (by decide), hj 7 (by decide), hj 8 (by decide), hj 9 (by decide), hj 10 (by decide), hj 11 (by decide), hj 12 (by decide), hj 13 (by decide), hj 14 (by decide), hj 15 (by decide), hj 16 (by decide), hj 17 (by decide), hj 18 (by decide)]
 rfl
theorem adrN_high (m : Nat) (h : 5 < m) (h9 : m < 9) : adC (adrN (m : Int)) = #[.int .u8 1, .int .u8 0, .int .u8 0, .int .u8 0, .int .u8 0, .int .u8 0, .int .u8 0, .int .u8 0, .int .u8 0, .int .u8 0, .int .u8 0, .int .u8 0, .int .u8 0, .int .u8 0, .int .u8 0, .int .u8 0, .int .u8 0, .int .u8 0, .int .u8 0, .int .u8 (m : Int)] := by
 have e : adrN (m : Int) = m + 256 ^ 19 := by unfold adrN; rw [if_pos (by omega)]; omega
 rw [e]
 have h0 : adB (m + 256 ^ 19) 0 = 1 := by unfold adB; omega
 have h19 : adB (m + 256 ^ 19) 19 = m := by unfold adB; omega
 have hj : ∀ j, 0 < j → j < 19 → adB (m + 256 ^ 19) j = 0 := fun j h0 hj => by
  have hj' : j = 1 ∨ j = 2 ∨ j = 3 ∨ j = 4 ∨ j = 5 ∨ j = 6 ∨ j = 7 ∨ j = 8 ∨ j = 9 ∨ j = 10 ∨ j = 11 ∨ j = 12 ∨ j = 13 ∨ j = 14 ∨ j = 15 ∨ j = 16 ∨ j = 17 ∨ j = 18 := by omega
  unfold adB
  rcases hj' with rfl | rfl | rfl | rfl | rfl | rfl | rfl | rfl | rfl | rfl | rfl | rfl | rfl | rfl | rfl | rfl | rfl | rfl <;> omega
 have r : adC (m + 256 ^ 19) = #[.int .u8 ((adB (m + 256 ^ 19) 0 : Nat) : Int), .int .u8 ((adB (m + 256 ^ 19) 1 : Nat) : Int), .int .u8 ((adB (m + 256 ^ 19) 2 : Nat) : Int), .int .u8 ((adB (m + 256 ^ 19) 3 : Nat) : Int), .int .u8 ((adB (m + 256 ^ 19) 4 : Nat) : Int), .int .u8 ((adB (m + 256 ^ 19) 5 : Nat) : Int), .int .u8 ((adB (m + 256 ^ 19) 6 : Nat) : Int), .int .u8 ((adB (m + 256 ^ 19) 7 : Nat) : Int), .int .u8 ((adB (m + 256 ^ 19) 8 : Nat) : Int), .int .u8 ((adB (m + 256 ^ 19) 9 : Nat) : Int), .int .u8 ((adB (m + 256 ^ 19) 10 : Nat) : Int), .int .u8 ((adB (m + 256 ^ 19) 11 : Nat) : Int), .int .u8 ((adB (m + 256 ^ 19) 12 : Nat) : Int), .int .u8 ((adB (m + 256 ^ 19) 13 : Nat) : Int), .int .u8 ((adB (m + 256 ^ 19) 14 : Nat) : Int), .int .u8 ((adB (m + 256 ^ 19) 15 : Nat) : Int), .int .u8 ((adB (m + 256 ^ 19) 16 : Nat) : Int), .int .u8 ((adB (m + 256 ^ 19) 17 : Nat) : Int), .int .u8 ((adB (m + 256 ^ 19) 18 : Nat) : Int), .int .u8 ((adB (m + 256 ^ 19) 19 : Nat) : Int)] := rfl
 rw [r, h0, h19, hj 1 (by decide) (by decide), hj 2 (by decide) (by decide), hj 3 (by decide) (by decide), hj 4 (by decide) (by decide), hj 5 (by decide) (by decide), hj 6 (by decide) (by decide), hj 7 (by decide) (by decide), hj 8 (by decide) (by decide), hj 9 (by decide) (by decide), hj 10 (by decide) (by decide), hj 11 (by decide) (by decide), hj 12 (by decide) (by decide), hj 13 (by decide) (by decide), hj 14 (by decide) (by decide), hj 15 (by decide) (by decide), hj 16 (by decide) (by decide), hj 17 (by decide) (by decide), hj 18 (by decide) (by decide)]
 rfl
theorem addr8_any (W : World) (c : Int) (hc : I64 c) : Calls Tryd.prog 83 #[.int .i64 c] W fun e w' => e = .returned (.agg (adC (adrN (pickN c 9)))) ∧ Below W.heap.size W w' := by
 have PK := hid (pick8_ret c hc 9 (by decide) (by decide))
 obtain ⟨k0, k1⟩ := pickN_range c 9 (by decide)
 obtain ⟨m, hm⟩ : ∃ m : Nat, pickN c 9 = (m : Int) := ⟨(pickN c 9).toNat, by omega⟩
 rw [hm] at PK k0 k1 ⊢
 clear hm
 have hr := (Has.new W 56 #[.int .u8 0, .int .u8 0, .int .u8 0, .int .u8 0, .int .u8 0, .int .u8 0, .int .u8 0, .int .u8 0, .int .u8 0, .int .u8 0, .int .u8 0, .int .u8 0, .int .u8 0, .int .u8 0, .int .u8 0, .int .u8 0, .int .u8 0, .int .u8 0, .int .u8 0, .int .u8 0]).alloc (.cells #[.int .u8 0, .int .u8 0, .int .u8 0, .int .u8 0, .int .u8 0, .int .u8 0, .int .u8 0, .int .u8 0, .int .u8 0, .int .u8 0, .int .u8 0, .int .u8 0, .int .u8 0, .int .u8 0, .int .u8 0, .int .u8 0, .int .u8 0, .int .u8 0, .int .u8 0, .int .u8 0] 56)
 have ht := Has.new (W.alloc (.cells #[.int .u8 0, .int .u8 0, .int .u8 0, .int .u8 0, .int .u8 0, .int .u8 0, .int .u8 0, .int .u8 0, .int .u8 0, .int .u8 0, .int .u8 0, .int .u8 0, .int .u8 0, .int .u8 0, .int .u8 0, .int .u8 0, .int .u8 0, .int .u8 0, .int .u8 0, .int .u8 0] 56)) 56 #[.int .u8 0, .int .u8 0, .int .u8 0, .int .u8 0, .int .u8 0, .int .u8 0, .int .u8 0, .int .u8 0, .int .u8 0, .int .u8 0, .int .u8 0, .int .u8 0, .int .u8 0, .int .u8 0, .int .u8 0, .int .u8 0, .int .u8 0, .int .u8 0, .int .u8 0, .int .u8 0]
 simp only [World.size_alloc] at ht
 have q0 := (newA W (.cells #[.int .u8 0, .int .u8 0, .int .u8 0, .int .u8 0, .int .u8 0, .int .u8 0, .int .u8 0, .int .u8 0, .int .u8 0, .int .u8 0, .int .u8 0, .int .u8 0, .int .u8 0, .int .u8 0, .int .u8 0, .int .u8 0, .int .u8 0, .int .u8 0, .int .u8 0, .int .u8 0] 56)).alloc (by simp) (.cells #[.int .u8 0, .int .u8 0, .int .u8 0, .int .u8 0, .int .u8 0, .int .u8 0, .int .u8 0, .int .u8 0, .int .u8 0, .int .u8 0, .int .u8 0, .int .u8 0, .int .u8 0, .int .u8 0, .int .u8 0, .int .u8 0, .int .u8 0, .int .u8 0, .int .u8 0, .int .u8 0] 56)
 obtain ⟨V, hV⟩ : ∃ V, (W.alloc (.cells #[.int .u8 0, .int .u8 0, .int .u8 0, .int .u8 0, .int .u8 0, .int .u8 0, .int .u8 0, .int .u8 0, .int .u8 0, .int .u8 0, .int .u8 0, .int .u8 0, .int .u8 0, .int .u8 0, .int .u8 0, .int .u8 0, .int .u8 0, .int .u8 0, .int .u8 0, .int .u8 0] 56)).alloc (.cells #[.int .u8 0, .int .u8 0, .int .u8 0, .int .u8 0, .int .u8 0, .int .u8 0, .int .u8 0, .int .u8 0, .int .u8 0, .int .u8 0, .int .u8 0, .int .u8 0, .int .u8 0, .int .u8 0, .int .u8 0, .int .u8 0, .int .u8 0, .int .u8 0, .int .u8 0, .int .u8 0] 56) = V := ⟨_, rfl⟩
 rw [hV] at hr ht q0
 have HR := hid hr
 have HT := hid ht
 have Q := hid q0
 have HM := hid (show m < 9 by omega)
 have hw : IntKind.u8.wrap (m : Int) = (m : Int) := by rw [IntKind.wrap_u8]; omega
 clear hr ht q0 k0 k1
 go_enter Tryd.func83, Tryd.ntmps83
 go_wp2_with fail
 clear hV
 refine (PK.out _).mono ?_
 rintro _ w1 ⟨rfl, hb1⟩
 have Q1 := hid (Q.out.trans (hb1.mono Q.out.size))
 have hr := HR.out.later hb1
 have ht := HT.out.later hb1
 have c19 := ht.cell 19 _ rfl
 have f19 := ht.frozen 19
 clear hb1 HR HT PK Q
 have hr1 := hr.other (p := ⟨W.heap.size + 1, 19, none⟩) (by simp) (.int .u8 (m : Int))
 have ht1 := ht.set 19 (.int .u8 (m : Int))
 have q1 := Q1.out.setCell (p := ⟨W.heap.size + 1, 19, none⟩) (by simp) (.int .u8 (m : Int))
 obtain ⟨U, hU⟩ : ∃ U, w1.setCell ⟨W.heap.size + 1, 19, none⟩ (.int .u8 (m : Int)) = U := ⟨_, rfl⟩
 rw [hU] at hr1 ht1 q1
 replace ht1 : Has U (W.heap.size + 1) 56 #[.int .u8 0, .int .u8 0, .int .u8 0, .int .u8 0, .int .u8 0, .int .u8 0, .int .u8 0, .int .u8 0, .int .u8 0, .int .u8 0, .int .u8 0, .int .u8 0, .int .u8 0, .int .u8 0, .int .u8 0, .int .u8 0, .int .u8 0, .int .u8 0, .int .u8 0, .int .u8 (m : Int)] := ht1
 by_cases hm5 : m ≤ 5
 ·have h5I : ¬ (5 : Int) < (m : Int) := by omega
  have h5N : ¬ 5 < m := by omega
  have LD := run_loadVar_row (P := Tryd.prog) U (W.heap.size + 1) 56 56 _ (0, 0) _ ht1 Tryd.underlying56 rfl infoAd
  have hF : Has (U.setRow W.heap.size #[.int .u8 0, .int .u8 0, .int .u8 0, .int .u8 0, .int .u8 0, .int .u8 0, .int .u8 0, .int .u8 0, .int .u8 0, .int .u8 0, .int .u8 0, .int .u8 0, .int .u8 0, .int .u8 0, .int .u8 0, .int .u8 0, .int .u8 0, .int .u8 0, .int .u8 0, .int .u8 (m : Int)]) W.heap.size 56 #[.int .u8 0, .int .u8 0, .int .u8 0, .int .u8 0, .int .u8 0, .int .u8 0, .int .u8 0, .int .u8 0, .int .u8 0, .int .u8 0, .int .u8 0, .int .u8 0, .int .u8 0, .int .u8 0, .int .u8 0, .int .u8 0, .int .u8 0, .int .u8 0, .int .u8 0, .int .u8 (m : Int)] := setRow_heap _ _ _ _ _ _ hr1
  have qF := hid (below_rowL q1 (g := W.heap.size) (Nat.le_refl _) #[.int .u8 0, .int .u8 0, .int .u8 0, .int .u8 0, .int .u8 0, .int .u8 0, .int .u8 0, .int .u8 0, .int .u8 0, .int .u8 0, .int .u8 0, .int .u8 0, .int .u8 0, .int .u8 0, .int .u8 0, .int .u8 0, .int .u8 0, .int .u8 0, .int .u8 0, .int .u8 (m : Int)])
  have HO := hid (show (#[.int .u8 0, .int .u8 0, .int .u8 0, .int .u8 0, .int .u8 0, .int .u8 0, .int .u8 0, .int .u8 0, .int .u8 0, .int .u8 0, .int .u8 0, .int .u8 0, .int .u8 0, .int .u8 0, .int .u8 0, .int .u8 0, .int .u8 0, .int .u8 0, .int .u8 0, .int .u8 (m : Int)] : Array Value).all (·.oneCell') = true from by simp [Value.oneCell'])
  have HL := hid LD
  have HRR := hid hr1
  have HFF := hid hF
  have HAD := hid (adrN_low m hm5)
  clear LD hF hr ht hr1 ht1 q1 hm5
  go_wp2_with (first | (refine wpList_load_known rfl _ (.tmp 3) rfl _ rfl _ HL.out ?_) | (refine wpList_store_row rfl _ (.tmp 2) (.tmp 13) rfl _ _ rfl rfl _ _ HRR.out infoAd rfl HO.out ?_))
  try simp only [Exit.inBlock, Exit.then]
  refine bodyPost_ret (results_cell_row rfl _ _ W.heap.size 56 _ (0, 0) _ rfl HFF.out Tryd.underlying56 rfl infoAd) rfl ?_
  exact ⟨by rw [HAD.out], qF.out⟩
 ·have h5I : (5 : Int) < (m : Int) := by omega
  have h5N : 5 < m := by omega
  have c0 := ht1.cell 0 _ rfl
  have f0 := ht1.frozen 0
  have hr2 := hr1.other (p := ⟨W.heap.size + 1, 0, none⟩) (by simp) (.int .u8 1)
  have ht2 := ht1.set 0 (.int .u8 1)
  have q2 := q1.setCell (p := ⟨W.heap.size + 1, 0, none⟩) (by simp) (.int .u8 1)
  obtain ⟨U2, hU2⟩ : ∃ U2, U.setCell ⟨W.heap.size + 1, 0, none⟩ (.int .u8 1) = U2 := ⟨_, rfl⟩
  rw [hU2] at hr2 ht2 q2
  replace ht2 : Has U2 (W.heap.size + 1) 56 #[.int .u8 1, .int .u8 0, .int .u8 0, .int .u8 0, .int .u8 0, .int .u8 0, .int .u8 0, .int .u8 0, .int .u8 0, .int .u8 0, .int .u8 0, .int .u8 0, .int .u8 0, .int .u8 0, .int .u8 0, .int .u8 0, .int .u8 0, .int .u8 0, .int .u8 0, .int .u8 (m : Int)] := ht2
  have LD := run_loadVar_row (P := Tryd.prog) U2 (W.heap.size + 1) 56 56 _ (0, 0) _ ht2 Tryd.underlying56 rfl infoAd
  have hF : Has (U2.setRow W.heap.size #[.int .u8 1, .int .u8 0, .int .u8 0, .int .u8 0, .int .u8 0, .int .u8 0, .int .u8 0, .int .u8 0, .int .u8 0, .int .u8 0, .int .u8 0, .int .u8 0, .int .u8 0, .int .u8 0, .int .u8 0, .int .u8 0, .int .u8 0, .int .u8 0, .int .u8 0, .int .u8 (m : Int)]) W.heap.size 56 #[.int .u8 1, .int .u8 0, .int .u8 0, .int .u8 0, .int .u8 0, .int .u8 0, .int .u8 0, .int .u8 0, .int .u8 0, .int .u8 0, .int .u8 0, .int .u8 0, .int .u8 0, .int .u8 0, .int .u8 0, .int .u8 0, .int .u8 0, .int .u8 0, .int .u8 0, .int .u8 (m : Int)] := setRow_heap _ _ _ _ _ _ hr2
  have qF := hid (below_rowL q2 (g := W.heap.size) (Nat.le_refl _) #[.int .u8 1, .int .u8 0, .int .u8 0, .int .u8 0, .int .u8 0, .int .u8 0, .int .u8 0, .int .u8 0, .int .u8 0, .int .u8 0, .int .u8 0, .int .u8 0, .int .u8 0, .int .u8 0, .int .u8 0, .int .u8 0, .int .u8 0, .int .u8 0, .int .u8 0, .int .u8 (m : Int)])
  have HO := hid (show (#[.int .u8 1, .int .u8 0, .int .u8 0, .int .u8 0, .int .u8 0, .int .u8 0, .int .u8 0, .int .u8 0, .int .u8 0, .int .u8 0, .int .u8 0, .int .u8 0, .int .u8 0, .int .u8 0, .int .u8 0, .int .u8 0, .int .u8 0, .int .u8 0, .int .u8 0, .int .u8 (m : Int)] : Array Value).all (·.oneCell') = true from by simp [Value.oneCell'])
  have HL := hid LD
  have HRR := hid hr2
  have HFF := hid hF
  have HAD := hid (adrN_high m h5N HM.out)
  clear LD hF hr ht hr1 ht1 q1 hr2 ht2 q2 hm5
  go_wp2_with (first | (refine wpList_load_known rfl _ (.tmp 3) rfl _ rfl _ HL.out ?_) | (refine wpList_store_row rfl _ (.tmp 2) (.tmp 13) rfl _ _ rfl rfl _ _ HRR.out infoAd rfl HO.out ?_))
  try simp only [Exit.inBlock, Exit.then]
  refine bodyPost_ret (results_cell_row rfl _ _ W.heap.size 56 _ (0, 0) _ rfl HFF.out Tryd.underlying56 rfl infoAd) rfl ?_
  exact ⟨by rw [HAD.out], qF.out⟩
end
section
open Go Go.RowKit
attribute [local go_sem] Oper.semAt_some Grows wide_fn
theorem pick10_ret (c : Int) (hc : I64 c) (m : Int) (hm : 0 < m) (hm2 : m ≤ 4611686018427387903) : Ret Tryd.prog 82 #[.int .i64 c, .int .i64 m] (.int .i64 (pickN c m)) := by
 refine Ret.of_same fun w => ?_
 unfold I64 at hc
 unfold pickN
 by_cases h : c < 0
 ·rw [if_pos h]
  have h0 : (0 : Int) ≤ -(c + 1) := by omega
  have h1 : -(c + 1) < 9223372036854775808 := by omega
  have q0 := Int.emod_nonneg (-(c + 1)) (show m ≠ 0 by omega)
  have q1 := Int.emod_lt_of_pos (-(c + 1)) hm
  have e := Int.tmod_eq_emod_of_nonneg h0 (b := m)
  go_enter Tryd.func82, Tryd.ntmps82
  go_wp2
  go_ret
  exact ⟨rfl, rfl⟩
 ·rw [if_neg h]
  have q0 := Int.emod_nonneg c (show m ≠ 0 by omega)
  have q1 := Int.emod_lt_of_pos c hm
  have e := Int.tmod_eq_emod_of_nonneg (show 0 ≤ c by omega) (b := m)
  go_enter Tryd.func82, Tryd.ntmps82
  go_wp2
  go_ret
  exact ⟨rfl, rfl⟩
end
section
open Go Go.RowKit
attribute [local go_sem] Oper.semAt_some Grows wide_fn
theorem built_key0 (x0 x1 x2 x3 x4 x5 x6 x7 x8 x9 x10 x11 x12 x13 x14 x15 x16 x17 x18 x19 _b y0 y1 y2 y3 : Value) : Tryd.prog.built 58 [(0, .agg #[x0, x1, x2, x3, x4, x5, x6, x7, x8, x9, x10, x11, x12, x13, x14, x15, x16, x17, x18, x19]), (1, .bool true), (2, .agg #[y0, y1, y2, y3])] = some #[x0, x1, x2, x3, x4, x5, x6, x7, x8, x9, x10, x11, x12, x13, x14, x15, x16, x17, x18, x19, .bool true, y0, y1, y2, y3] := by kernel_rfl
theorem built_key (n m : Nat) : Tryd.prog.built 58 [(0, .agg (adC n)), (1, .bool true), (2, wv m)] = some (kyC ⟨n, true, m⟩) := by
 have h := built_key0 (.int .u8 ((adB n 0 : Nat) : Int)) (.int .u8 ((adB n 1 : Nat) : Int)) (.int .u8 ((adB n 2 : Nat) : Int)) (.int .u8 ((adB n 3 : Nat) : Int)) (.int .u8 ((adB n 4 : Nat) : Int)) (.int .u8 ((adB n 5 : Nat) : Int)) (.int .u8 ((adB n 6 : Nat) : Int)) (.int .u8 ((adB n 7 : Nat) : Int)) (.int .u8 ((adB n 8 : Nat) : Int)) (.int .u8 ((adB n 9 : Nat) : Int)) (.int .u8 ((adB n 10 : Nat) : Int)) (.int .u8 ((adB n 11 : Nat) : Int)) (.int .u8 ((adB n 12 : Nat) : Int)) (.int .u8 ((adB n 13 : Nat) : Int)) (.int .u8 ((adB n 14 : Nat) : Int)) (.int .u8 ((adB n 15 : Nat) : Int)) (.int .u8 ((adB n 16 : Nat) : Int)) (.int .u8 ((adB n 17 : Nat) : Int)) (.int .u8 ((adB n 18 : Nat) : Int)) (.int .u8 ((adB n 19 : Nat) : Int)) (.bool true) (.int .u64 (lim m 0)) (.int .u64 (lim m 1)) (.int .u64 (lim m 2)) (.int .u64 (lim m 3))
 have e1 : adC n = #[.int .u8 ((adB n 0 : Nat) : Int), .int .u8 ((adB n 1 : Nat) : Int), .int .u8 ((adB n 2 : Nat) : Int), .int .u8 ((adB n 3 : Nat) : Int), .int .u8 ((adB n 4 : Nat) : Int), .int .u8 ((adB n 5 : Nat) : Int), .int .u8 ((adB n 6 : Nat) : Int), .int .u8 ((adB n 7 : Nat) : Int), .int .u8 ((adB n 8 : Nat) : Int), .int .u8 ((adB n 9 : Nat) : Int), .int .u8 ((adB n 10 : Nat) : Int), .int .u8 ((adB n 11 : Nat) : Int), .int .u8 ((adB n 12 : Nat) : Int), .int .u8 ((adB n 13 : Nat) : Int), .int .u8 ((adB n 14 : Nat) : Int), .int .u8 ((adB n 15 : Nat) : Int), .int .u8 ((adB n 16 : Nat) : Int), .int .u8 ((adB n 17 : Nat) : Int), .int .u8 ((adB n 18 : Nat) : Int), .int .u8 ((adB n 19 : Nat) : Int)] := rfl
 have e2 : kyC ⟨n, true, m⟩ = #[.int .u8 ((adB n 0 : Nat) : Int), .int .u8 ((adB n 1 : Nat) : Int), .int .u8 ((adB n 2 : Nat) : Int), .int .u8 ((adB n 3 : Nat) : Int), .int .u8 ((adB n 4 : Nat) : Int), .int .u8 ((adB n 5 : Nat) : Int), .int .u8 ((adB n 6 : Nat) : Int), .int .u8 ((adB n 7 : Nat) : Int), .int .u8 ((adB n 8 : Nat) : Int), .int .u8 ((adB n 9 : Nat) : Int), .int .u8 ((adB n 10 : Nat) : Int), .int .u8 ((adB n 11 : Nat) : Int), .int .u8 ((adB n 12 : Nat) : Int), .int .u8 ((adB n 13 : Nat) : Int), .int .u8 ((adB n 14 : Nat) : Int), .int .u8 ((adB n 15 : Nat) : Int), .int .u8 ((adB n 16 : Nat) : Int), .int .u8 ((adB n 17 : Nat) : Int), .int .u8 ((adB n 18 : Nat) : Int), .int .u8 ((adB n 19 : Nat) : Int), .bool true, .int .u64 (lim m 0), .int .u64 (lim m 1), .int .u64 (lim m 2), .int .u64 (lim m 3)] := rfl
 rw [e1, e2]
 exact h
theorem wpList_build_key {ops : Array Oper} {rest : List Oper} {o : Oper} {a : Act} {w : World} {Q : Exit → Act → World → Prop} (hw : Region.wanted o (yielded ops a.tmps) = true) (y z : Operand) (ho : o.op = .build 58 #[(0, y), (1, .const (.bool true)), (2, z)]) (ad cs : Array Value) (v : Value) (hb : Tryd.prog.built 58 [(0, .agg ad), (1, .bool true), (2, v)] = some cs) (hy : a.eval y = .agg ad) (hz : a.eval z = v)
  (h : wpList Tryd.prog ops Q rest (a.put o.dst (.agg cs)) w) : wpList Tryd.prog ops Q (o :: rest) a w := by
 refine wpList_step fun K hK => ?_
 rw [if_pos hw]
 have e : Tryd.prog.built 58 (#[((0 : Nat), y), (1, .const (.bool true)), (2, z)].map fun (i, x) => (i, a.eval x)).toList = some cs := by
  simp only [List.map_toArray, List.map_cons, List.map_nil, hy, hz]
  exact hb
 refine wp_build 58 #[(0, y), (1, .const (.bool true)), (2, z)] ho (by rw [e]; rfl) (hK _ _ ?_)
 rw [e]
 exact h
def keyN (c d : Int) : Ky := if pickN d 5 = 0 then ⟨adrN (pickN c 9), false, 0⟩ else ⟨adrN (pickN c 9), true, (pickN d 5 - 1).toNat⟩
theorem keyN_ok (c d : Int) : KyOk (keyN c d) := by
 have h := pickN_range c 9 (by decide)
 have g := pickN_range d 5 (by decide)
 unfold keyN
 split
 ·exact ⟨adrN_lt h.2, by show W256 0; unfold W256; omega⟩
 ·exact ⟨adrN_lt h.2, by show W256 ((pickN d 5 - 1).toNat); unfold W256; omega⟩
theorem key10_any (W : World) (c d : Int) (hc : I64 c) (hd : I64 d) : Calls Tryd.prog 68 #[.int .i64 c, .int .i64 d] W fun e w' => e = .returned (.agg (kyC (keyN c d))) ∧ Below W.heap.size W w' := by
 have PK := hid (pick10_ret d hd 5 (by decide) (by decide))
 have AD := hid (fun X => addr8_any X c hc)
 obtain ⟨j0, j1⟩ := pickN_range d 5 (by decide)
 have hkn : ∀ j, pickN d 5 = j → keyN c d = if j = 0 then ⟨adrN (pickN c 9), false, 0⟩ else ⟨adrN (pickN c 9), true, (j - 1).toNat⟩ := fun j h => by unfold keyN; rw [h]
 obtain ⟨j, hj⟩ : ∃ j, pickN d 5 = j := ⟨_, rfl⟩
 replace hkn := hid (hkn j hj)
 rw [hj] at PK j0 j1
 clear hj
 obtain ⟨k, hk⟩ : ∃ k, keyN c d = k := ⟨_, rfl⟩
 rw [hk] at hkn ⊢
 clear hk
 generalize adrN (pickN c 9) = n at *
 have B1 := hid (built_at n)
 have B2 := hid (fun m => built_key n m)
 obtain ⟨V, hV, hb, q0⟩ := newBox W 58 #[.int .u8 0, .int .u8 0, .int .u8 0, .int .u8 0, .int .u8 0, .int .u8 0, .int .u8 0, .int .u8 0, .int .u8 0, .int .u8 0, .int .u8 0, .int .u8 0, .int .u8 0, .int .u8 0, .int .u8 0, .int .u8 0, .int .u8 0, .int .u8 0, .int .u8 0, .int .u8 0, .bool false, .int .u64 0, .int .u64 0, .int .u64 0, .int .u64 0]
 have HB := hid hb
 have Q := hid q0
 clear hb q0
 go_enter Tryd.func68, Tryd.ntmps68
 go_wp2_with fail
 clear hV
 refine (PK.out _).mono ?_
 rintro _ w1 ⟨rfl, hb1⟩
 have Q1 := hid (Q.out.trans (hb1.mono Q.out.size))
 have H1 := hid (HB.out.later hb1)
 clear hb1 HB PK Q
 have hjj : j = 0 ∨ j = 1 ∨ j = 2 ∨ j = 3 ∨ j = 4 := by omega
 clear j0 j1
 rcases hjj with rfl | rfl | rfl | rfl | rfl
 ·go_wp2_with fail
  refine (AD.out _).mono ?_
  rintro _ w2 ⟨rfl, hb2⟩
  have Q2 := hid (Q1.out.trans (hb2.mono Q1.out.size))
  have H2 := hid (H1.out.later hb2)
  clear hb2
  have hF : Has (w2.setRow W.heap.size (kyC ⟨n, false, 0⟩)) W.heap.size 58 (kyC ⟨n, false, 0⟩) := setRow_heap _ _ _ _ _ _ H2.out
  have HF := hid hF
  have qF := hid (below_rowK Q2.out (g := W.heap.size) (Nat.le_refl _) (kyC ⟨n, false, 0⟩))
  have hi : (Tryd.prog.info? 58).map (·.size) = some (kyC ⟨n, false, 0⟩).size := by rw [kyC_size]; exact infoKy
  have HI := hid hi
  have HS := hid (show (#[.int .u8 0, .int .u8 0, .int .u8 0, .int .u8 0, .int .u8 0, .int .u8 0, .int .u8 0, .int .u8 0, .int .u8 0, .int .u8 0, .int .u8 0, .int .u8 0, .int .u8 0, .int .u8 0, .int .u8 0, .int .u8 0, .int .u8 0, .int .u8 0, .int .u8 0, .int .u8 0, .bool false, .int .u64 0, .int .u64 0, .int .u64 0, .int .u64 0] : Array Value).size = (kyC ⟨n, false, 0⟩).size by rw [kyC_size]; rfl)
  have HO := hid (kyC_one ⟨n, false, 0⟩)
  clear hF hi
  go_wp2_with (first | (refine wpList_build_at rfl (.tmp 11) rfl _ _ B1.out rfl ?_) | (refine wpList_store_row rfl _ (.tmp 4) (.tmp 12) rfl _ _ rfl rfl _ _ H2.out HI.out HS.out HO.out ?_))
  try simp only [Exit.inBlock, Exit.then]
  refine bodyPost_ret (results_cell_row rfl _ _ W.heap.size 58 _ (0, 0) _ rfl HF.out Tryd.underlying58 rfl HI.out) rfl ?_
  exact ⟨by rw [hkn.out]; rfl, qF.out⟩
 ·have OF := hid (fun X => refOf_ret 0 (by unfold I64; omega) X)
  have eo : ofN 0 = 0 := by decide
  rw [eo] at OF
  go_wp2_with fail
  refine (AD.out _).mono ?_
  rintro _ w2 ⟨rfl, hb2⟩
  have Q2 := hid (Q1.out.trans (hb2.mono Q1.out.size))
  have H2 := hid (H1.out.later hb2)
  clear hb2
  go_wp2_with fail
  refine (OF.out _).mono ?_
  rintro _ w3 ⟨rfl, hb3⟩
  have Q3 := hid (Q2.out.trans (hb3.mono Q2.out.size))
  have H3 := hid (H2.out.later hb3)
  clear hb3
  have hF : Has (w3.setRow W.heap.size (kyC ⟨n, true, 0⟩)) W.heap.size 58 (kyC ⟨n, true, 0⟩) := setRow_heap _ _ _ _ _ _ H3.out
  have HF := hid hF
  have qF := hid (below_rowK Q3.out (g := W.heap.size) (Nat.le_refl _) (kyC ⟨n, true, 0⟩))
  have hi : (Tryd.prog.info? 58).map (·.size) = some (kyC ⟨n, true, 0⟩).size := by rw [kyC_size]; exact infoKy
  have HI := hid hi
  have HS := hid (show (#[.int .u8 0, .int .u8 0, .int .u8 0, .int .u8 0, .int .u8 0, .int .u8 0, .int .u8 0, .int .u8 0, .int .u8 0, .int .u8 0, .int .u8 0, .int .u8 0, .int .u8 0, .int .u8 0, .int .u8 0, .int .u8 0, .int .u8 0, .int .u8 0, .int .u8 0, .int .u8 0, .bool false, .int .u64 0, .int .u64 0, .int .u64 0, .int .u64 0] : Array Value).size = (kyC ⟨n, true, 0⟩).size by rw [kyC_size]; rfl)
  have HO := hid (kyC_one ⟨n, true, 0⟩)
  clear hF hi
  go_wp2_with (first | (refine wpList_build_key rfl (.tmp 14) (.tmp 17) rfl _ _ _ (B2.out 0) rfl rfl ?_) | (refine wpList_store_row rfl _ (.tmp 4) (.tmp 18) rfl _ _ rfl rfl _ _ H3.out HI.out HS.out HO.out ?_))
  try simp only [Exit.inBlock, Exit.then]
  refine bodyPost_ret (results_cell_row rfl _ _ W.heap.size 58 _ (0, 0) _ rfl HF.out Tryd.underlying58 rfl HI.out) rfl ?_
  exact ⟨by rw [hkn.out]; rfl, qF.out⟩
 ·have OF := hid (fun X => refOf_ret 1 (by unfold I64; omega) X)
  have eo : ofN 1 = 1 := by decide
  rw [eo] at OF
  go_wp2_with fail
  refine (AD.out _).mono ?_
  rintro _ w2 ⟨rfl, hb2⟩
  have Q2 := hid (Q1.out.trans (hb2.mono Q1.out.size))
  have H2 := hid (H1.out.later hb2)
  clear hb2
  go_wp2_with fail
  refine (OF.out _).mono ?_
  rintro _ w3 ⟨rfl, hb3⟩
  have Q3 := hid (Q2.out.trans (hb3.mono Q2.out.size))
  have H3 := hid (H2.out.later hb3)
  clear hb3
  have hF : Has (w3.setRow W.heap.size (kyC ⟨n, true, 1⟩)) W.heap.size 58 (kyC ⟨n, true, 1⟩) := setRow_heap _ _ _ _ _ _ H3.out
  have HF := hid hF
  have qF := hid (below_rowK Q3.out (g := W.heap.size) (Nat.le_refl _) (kyC ⟨n, true, 1⟩))
  have hi : (Tryd.prog.info? 58).map (·.size) = some (kyC ⟨n, true, 1⟩).size := by rw [kyC_size]; exact infoKy
  have HI := hid hi
  have HS := hid (show (#[.int .u8 0, .int .u8 0, .int .u8 0, .int .u8 0, .int .u8 0, .int .u8 0, .int .u8 0, .int .u8 0, .int .u8 0, .int .u8 0, .int .u8 0, .int .u8 0, .int .u8 0, .int .u8 0, .int .u8 0, .int .u8 0, .int .u8 0, .int .u8 0, .int .u8 0, .int .u8 0, .bool false, .int .u64 0, .int .u64 0, .int .u64 0, .int .u64 0] : Array Value).size = (kyC ⟨n, true, 1⟩).size by rw [kyC_size]; rfl)
  have HO := hid (kyC_one ⟨n, true, 1⟩)
  clear hF hi
  go_wp2_with (first | (refine wpList_build_key rfl (.tmp 14) (.tmp 17) rfl _ _ _ (B2.out 1) rfl rfl ?_) | (refine wpList_store_row rfl _ (.tmp 4) (.tmp 18) rfl _ _ rfl rfl _ _ H3.out HI.out HS.out HO.out ?_))
  try simp only [Exit.inBlock, Exit.then]
  refine bodyPost_ret (results_cell_row rfl _ _ W.heap.size 58 _ (0, 0) _ rfl HF.out Tryd.underlying58 rfl HI.out) rfl ?_
  exact ⟨by rw [hkn.out]; rfl, qF.out⟩
 ·have OF := hid (fun X => refOf_ret 2 (by unfold I64; omega) X)
  have eo : ofN 2 = 2 := by decide
  rw [eo] at OF
  go_wp2_with fail
  refine (AD.out _).mono ?_
  rintro _ w2 ⟨rfl, hb2⟩
  have Q2 := hid (Q1.out.trans (hb2.mono Q1.out.size))
  have H2 := hid (H1.out.later hb2)
  clear hb2
  go_wp2_with fail
  refine (OF.out _).mono ?_
  rintro _ w3 ⟨rfl, hb3⟩
  have Q3 := hid (Q2.out.trans (hb3.mono Q2.out.size))
  have H3 := hid (H2.out.later hb3)
  clear hb3
  have hF : Has (w3.setRow W.heap.size (kyC ⟨n, true, 2⟩)) W.heap.size 58 (kyC ⟨n, true, 2⟩) := setRow_heap _ _ _ _ _ _ H3.out
  have HF := hid hF
  have qF := hid (below_rowK Q3.out (g := W.heap.size) (Nat.le_refl _) (kyC ⟨n, true, 2⟩))
  have hi : (Tryd.prog.info? 58).map (·.size) = some (kyC ⟨n, true, 2⟩).size := by rw [kyC_size]; exact infoKy
  have HI := hid hi
  have HS := hid (show (#[.int .u8 0, .int .u8 0, .int .u8 0, .int .u8 0, .int .u8 0, .int .u8 0, .int .u8 0, .int .u8 0, .int .u8 0, .int .u8 0, .int .u8 0, .int .u8 0, .int .u8 0, .int .u8 0, .int .u8 0, .int .u8 0, .int .u8 0, .int .u8 0, .int .u8 0, .int .u8 0, .bool false, .int .u64 0, .int .u64 0, .int .u64 0, .int .u64 0] : Array Value).size = (kyC ⟨n, true, 2⟩).size by rw [kyC_size]; rfl)
  have HO := hid (kyC_one ⟨n, true, 2⟩)
  clear hF hi
  go_wp2_with (first | (refine wpList_build_key rfl (.tmp 14) (.tmp 17) rfl _ _ _ (B2.out 2) rfl rfl ?_) | (refine wpList_store_row rfl _ (.tmp 4) (.tmp 18) rfl _ _ rfl rfl _ _ H3.out HI.out HS.out HO.out ?_))
  try simp only [Exit.inBlock, Exit.then]
  refine bodyPost_ret (results_cell_row rfl _ _ W.heap.size 58 _ (0, 0) _ rfl HF.out Tryd.underlying58 rfl HI.out) rfl ?_
  exact ⟨by rw [hkn.out]; rfl, qF.out⟩
 ·have OF := hid (fun X => refOf_ret 3 (by unfold I64; omega) X)
  have eo : ofN 3 = 3 := by decide
  rw [eo] at OF
  go_wp2_with fail
  refine (AD.out _).mono ?_
  rintro _ w2 ⟨rfl, hb2⟩
  have Q2 := hid (Q1.out.trans (hb2.mono Q1.out.size))
  have H2 := hid (H1.out.later hb2)
  clear hb2
  go_wp2_with fail
  refine (OF.out _).mono ?_
  rintro _ w3 ⟨rfl, hb3⟩
  have Q3 := hid (Q2.out.trans (hb3.mono Q2.out.size))
  have H3 := hid (H2.out.later hb3)
  clear hb3
  have hF : Has (w3.setRow W.heap.size (kyC ⟨n, true, 3⟩)) W.heap.size 58 (kyC ⟨n, true, 3⟩) := setRow_heap _ _ _ _ _ _ H3.out
  have HF := hid hF
  have qF := hid (below_rowK Q3.out (g := W.heap.size) (Nat.le_refl _) (kyC ⟨n, true, 3⟩))
  have hi : (Tryd.prog.info? 58).map (·.size) = some (kyC ⟨n, true, 3⟩).size := by rw [kyC_size]; exact infoKy
  have HI := hid hi
  have HS := hid (show (#[.int .u8 0, .int .u8 0, .int .u8 0, .int .u8 0, .int .u8 0, .int .u8 0, .int .u8 0, .int .u8 0, .int .u8 0, .int .u8 0, .int .u8 0, .int .u8 0, .int .u8 0, .int .u8 0, .int .u8 0, .int .u8 0, .int .u8 0, .int .u8 0, .int .u8 0, .int .u8 0, .bool false, .int .u64 0, .int .u64 0, .int .u64 0, .int .u64 0] : Array Value).size = (kyC ⟨n, true, 3⟩).size by rw [kyC_size]; rfl)
  have HO := hid (kyC_one ⟨n, true, 3⟩)
  clear hF hi
  go_wp2_with (first | (refine wpList_build_key rfl (.tmp 14) (.tmp 17) rfl _ _ _ (B2.out 3) rfl rfl ?_) | (refine wpList_store_row rfl _ (.tmp 4) (.tmp 18) rfl _ _ rfl rfl _ _ H3.out HI.out HS.out HO.out ?_))
  try simp only [Exit.inBlock, Exit.then]
  refine bodyPost_ret (results_cell_row rfl _ _ W.heap.size 58 _ (0, 0) _ rfl HF.out Tryd.underlying58 rfl HI.out) rfl ?_
  exact ⟨by rw [hkn.out]; rfl, qF.out⟩
end
end Go.Proofs.YtlihnlkcgiopoaaDoor
namespace Go.Proofs.YtlihnlkcgiopoaaDoor.Late
open Go Go.RowKit Go.BigFrame
section
variable {P : Program} {md : Region.Mode}
structure GhostOk (md : Region.Mode) (l : List Oper) (deps : List (List Nat)) : Prop where
 sel : ∀ (j : Nat) (o : Oper) cs b, l[j]? = some o → o.op ≠ .select cs b
 edges : ∀ (j : Nat) (oj : Oper), l[j]? = some oj → ∀ e ∈ oj.after, Region.binds md e = true → e.on < j
 told : ∀ i, i < l.length → ∀ j ∈ deps.getD i [], j < i ∧ ∃ k, Region.waitsFor md l.toArray i k = true ∧ (j = k ∨ j ∈ deps.getD k [])
 looks : ∀ (i j : Nat) (oi oj : Oper), l[i]? = some oi → l[j]? = some oj → ∀ d, oj.dst = some d → d ∈ oi.looksAt l.toArray → j ∈ deps.getD i [] ∨ i ∈ deps.getD j []
 dsts : ∀ (i j : Nat) (oi oj : Oper), l[i]? = some oi → l[j]? = some oj → j ≠ i → ∀ d, oi.dst = some d → oj.dst ≠ some d
def ghostOne (md : Region.Mode) (l : List Oper) (deps : List (List Nat)) (i : Nat) (oi : Oper) : Bool :=
 (oi.after.all fun e => !Region.binds md e || decide (e.on < i)) &&
 ((deps.getD i []).all fun j => decide (j < i) && ((List.range l.length).any fun k => Region.waitsFor md l.toArray i k && (j == k || (deps.getD k []).contains j))) &&
 ((List.range l.length).all fun j => match l[j]? with
  | none => true
  | some oj => match oj.dst with
   | none => true
   | some d => (!(oi.looksAt l.toArray).contains d || ((deps.getD i []).contains j || (deps.getD j []).contains i)) && (j == i || oi.dst != some d))
def ghostB (md : Region.Mode) (l : List Oper) (deps : List (List Nat)) : Bool :=
 Region.noSelect l.toArray &&
 ((List.range l.length).all fun i => match l[i]? with
  | none => true
  | some oi => ghostOne md l deps i oi)
theorem ghostOk {md : Region.Mode} {l : List Oper} {deps : List (List Nat)} (h : ghostB md l deps = true) : GhostOk md l deps := by
 unfold ghostB at h
 rw [Bool.and_eq_true] at h
 obtain ⟨h1, h2⟩ := h
 have key : ∀ i oi, l[i]? = some oi → ghostOne md l deps i oi = true := fun i oi hi => by
  have := List.all_eq_true.1 h2 i (List.mem_range.2 (List.getElem?_eq_some_iff.1 hi).1)
  simpa only [hi] using this
 have key1 : ∀ (i : Nat) (oi : Oper), l[i]? = some oi → (oi.after.all fun e => !Region.binds md e || decide (e.on < i)) = true := fun i oi hi => by
  have := key i oi hi
  unfold ghostOne at this
  rw [Bool.and_eq_true, Bool.and_eq_true] at this
  exact this.1.1
 have key2 : ∀ (i : Nat) (oi : Oper), l[i]? = some oi → ((deps.getD i []).all fun j => decide (j < i) && ((List.range l.length).any fun k => Region.waitsFor md l.toArray i k && (j == k || (deps.getD k []).contains j))) = true := fun i oi hi => by
  have := key i oi hi
  unfold ghostOne at this
  rw [Bool.and_eq_true, Bool.and_eq_true] at this
  exact this.1.2
 have key3 : ∀ (i : Nat) (oi : Oper) (j : Nat) (oj : Oper) (d : Tmp), l[i]? = some oi → l[j]? = some oj → oj.dst = some d → ((oi.looksAt l.toArray).contains d = true → ((deps.getD i []).contains j || (deps.getD j []).contains i) = true) ∧ (j ≠ i → oi.dst ≠ some d) := fun i oi j oj d hi hj hd => by
  have := key i oi hi
  unfold ghostOne at this
  rw [Bool.and_eq_true] at this
  have := List.all_eq_true.1 this.2 j (List.mem_range.2 (List.getElem?_eq_some_iff.1 hj).1)
  simp only [hj, hd] at this
  rw [Bool.and_eq_true] at this
  refine ⟨fun h => ?_, fun hne => ?_⟩
  ·have h1 := this.1
   rw [h] at h1
   simpa only [Bool.not_true, Bool.false_or] using h1
  ·have h2 := this.2
   rw [Bool.or_eq_true, beq_iff_eq, bne_iff_ne] at h2
   rcases h2 with h' | h'
   ·exact absurd h' hne
   ·exact h'
 refine ⟨fun j o cs b hj => Region.noSelect_spec h1 j o cs b (by simpa using hj), fun j oj hj e he hb => ?_, fun i hi j hj => ?_, fun i j oi oj hi hj d hd hin => ?_, fun i j oi oj hi hj hne d hd hd' => (key3 i oi j oj d hi hj hd').2 hne hd⟩
 ·have := Array.all_eq_true_iff_forall_mem.1 (key1 j oj hj) e he
  rw [hb] at this
  simpa using this
 ·have := List.all_eq_true.1 (key2 i l[i] (by simp [hi])) j hj
  rw [Bool.and_eq_true, decide_eq_true_eq] at this
  obtain ⟨k, _, hk⟩ := List.any_eq_true.1 this.2
  rw [Bool.and_eq_true, Bool.or_eq_true, beq_iff_eq, List.contains_iff_mem] at hk
  exact ⟨this.1, k, hk.1, hk.2⟩
 ·have h3 := (key3 i oi j oj d hi hj hd).1 (List.contains_iff_mem.2 hin)
  rw [Bool.or_eq_true, List.contains_iff_mem, List.contains_iff_mem] at h3
  exact h3
variable {ops : Array Oper} {c : List (Option Value)} {deps : List (List Nat)} {U : (Nat → Bool) → (Nat → Value) → World → Prop} {Q : Exit → Act → World → Prop} {f : Nat → Bool} {g : Nat → Value} {w : World}
variable {F : Fence} {m : Nat}
structure Held (md : Region.Mode) (l : List Oper) (c : List (Option Value)) (deps : List (List Nat)) (U : (Nat → Bool) → (Nat → Value) → World → Prop) (a0 : Act) (listed : Array Bool) (g : Nat → Value) (a : Act) (w : World) : Prop where
 closed : Closed md l.toArray listed
 act : a = putsG (fun j => listed.getD j false) g 0 l a0
 vals : ∀ j v, listed.getD j false = true → c.getD j none = some v → g j = v
 down : ∀ k, listed.getD k false = true → ∀ j ∈ deps.getD k [], listed.getD j false = true
 world : U (fun j => listed.getD j false) g w
theorem exists_ready' {l : List Oper} (hedges : ∀ (j : Nat) (oj : Oper), l[j]? = some oj → ∀ e ∈ oj.after, Region.binds md e = true → e.on < j) {listed : Array Bool} (hc : Closed md l.toArray listed) : ∀ i, listed.getD i true = false → ∃ j, j ∈ Region.ready md l.toArray listed := by
 intro i
 induction i using Nat.strongRecOn with
 | _ i ih =>
  intro hi
  by_cases h : ∃ oi, l.toArray[i]? = some oi ∧ ∃ e ∈ oi.after, Region.binds md e = true ∧ listed.getD e.on false = false
  ·obtain ⟨oi, hoi, e, he, hb, hf⟩ := h
   have hlt := hedges i oi (by simpa using hoi) e he hb
   have hil : i < listed.size := by
    rw [hc.1]; exact (Array.getElem?_eq_some_iff.1 hoi).1
   exact ih e.on hlt (getD_in (by omega) hf)
  ·refine ⟨i, mem_ready.2 ⟨hi, ?_⟩⟩
   have hil : i < l.toArray.size := by
    rw [← hc.1]
    rcases Nat.lt_or_ge i listed.size with h' | h'
    ·exact h'
    ·simp [Array.getElem?_eq_none h'] at hi
   refine ⟨l.toArray[i], by simp [], fun e he hb => ?_⟩
   cases hl : listed.getD e.on false with
   | true => rfl
   | false => exact absurd ⟨l.toArray[i], by simp [], e, he, hb, hl⟩ h
theorem ghost_main (hF : Free F) {l : List Oper} {a0 : Act} (ok : GhostOk md l deps) (hnd : ∀ o ∈ l, ∀ q, o.op ≠ .defer q)
  (hg : ∀ f g w w', U f g w → Below w.heap.size w w' → U f g w')
  (hi : ∀ f f' g g' w, (∀ j, c.getD j none = none → f j = f' j ∧ g j = g' j) → U f g w → U f' g' w)
  (hw : ∀ f g w, U f g w → (∀ k, f k = true → ∀ j ∈ deps.getD k [], f j = true) → GW P l.toArray c deps U Q f g w 0 l a0) :
  ∀ (fuel : Nat) (V : List Nat) (listed : Array Bool) (g : Nat → Value) (a : Act) (w : World), V.Nodup → (∀ i, i ∈ V ↔ listed.getD i true = false) → V.length = fuel → Held md l c deps U a0 listed g a w →
   wpAnyIn F m P md l.toArray Q fuel listed a w := by
 intro fuel
 induction fuel with
 | zero =>
  intro V listed g a w hV hVm hVl H
  have hnil : V = [] := List.eq_nil_of_length_eq_zero hVl
  subst hnil
  have hall : ∀ i, listed.getD i true = true := fun i => by
   cases hi : listed.getD i true with
   | true => rfl
   | false => have := (hVm i).2 hi; cases this
  have hallf : ∀ i, i < l.length → listed.getD i false = true := fun i hil => by
   cases hi : listed.getD i false with
   | true => rfl
   | false => have := getD_in (by rw [H.closed.1]; simpa using hil) hi; rw [hall] at this; cases this
  refine ⟨?_, ?_⟩
  ·apply List.eq_nil_iff_forall_not_mem.2
   intro j hj
   have := (mem_ready.1 hj).1
   rw [hall] at this; cases this
  ·have h0 : putsG (fun j => decide (j < 0)) (knownG c g) 0 l a0 = a0 := by
    rw [putsG_congr l 0 a0 (fun j => decide (j < 0)) (fun _ => false) (knownG c g) g (fun j _ _ => ⟨by simp, fun h => by simp at h⟩)]
    have : ∀ (t : List Oper) k, putsG (fun _ => false) g k t a0 = a0 := by
     intro t
     induction t with
     | nil => intro k; rfl
     | cons o t ih => intro k; simp only [putsG, Bool.false_eq_true, if_false]; exact ih _
    exact this l 0
   have hGW := hw _ _ _ H.world H.down
   rw [← h0] at hGW
   have := (GW.at ok.dsts l 0 (fun j => by simp) (by simp) (by rw [h0] at hGW ⊢; exact hGW)).2 hallf
   rw [H.act]
   rw [putsG_congr l 0 a0 (fun j => listed.getD j false) (fun j => decide (j < l.length)) g (knownG c g) (fun j _ hj => ⟨by rw [hallf j (by omega)]; simp; omega, fun hf => by
    unfold knownG
    cases hc : c.getD j none with
    | none => rfl
    | some v => rw [H.vals j v hf hc]; rfl⟩)]
   exact this
 | succ fuel ih =>
  intro V listed g a w hV hVm hVl H
  refine ⟨fun h0 => ?_, fun i hir => ?_⟩
  ·obtain ⟨j, hj⟩ : ∃ j, j ∈ V := by
    cases V with
    | nil => cases hVl
    | cons x r => exact ⟨x, by simp⟩
   obtain ⟨k, hk⟩ := exists_ready' ok.edges H.closed j ((hVm j).1 hj)
   rw [h0] at hk; cases hk
  ·obtain ⟨hun, oi, hoi, hall⟩ := mem_ready.1 hir
   have hoi' : l[i]? = some oi := by simpa using hoi
   have hilt : i < l.length := (List.getElem?_eq_some_iff.1 hoi').1
   have hiV : i ∈ V := (hVm i).2 hun
   have hV' : (V.erase i).Nodup := hV.erase i
   have hVm' : ∀ j, j ∈ V.erase i ↔ (listed.setIfInBounds i true).getD j true = false := fun j => by
    by_cases hji : j = i
    ·subst hji
     rw [getD_set_true']
     simp [hV.not_mem_erase]
    ·rw [List.mem_erase_of_ne hji, hVm j, getD_set_ne true (Ne.symm hji)]
   have hVl' : (V.erase i).length = fuel := by rw [List.length_erase_of_mem hiV, hVl]; rfl
   have hc' := H.closed.set hir
   have hom : oi ∈ l := List.mem_of_getElem? hoi'
   have hfi : listed.getD i false = false := getD_both hun
   have hdown : ∀ j ∈ deps.getD i [], listed.getD j false = true := fun j hj => by
    obtain ⟨_, k, hk, hjk⟩ := ok.told i hilt j hj
    have hlk := ready_waits hir hk
    rcases hjk with rfl | hjk
    ·exact hlk
    ·exact H.down k hlk j hjk
   have hflag : (fun j => (listed.setIfInBounds i true).getD j false) = upd (fun j => listed.getD j false) i true := by
    funext j
    by_cases hji : j = i
    ·subst hji
     rw [upd_self]
     have : j < listed.size := by rw [H.closed.1]; simpa using hilt
     simp [this]
    ·rw [upd_ne _ _ hji, getD_set_ne false (Ne.symm hji)]
   -- the frame as the walk has it
   let A := putsG (fun j => decide (j < i)) (knownG c g) 0 l a0
   have hA : A = putsG (fun j => decide (j < i)) (knownG c g) 0 l a0 := rfl
   have h0 : putsG (fun j => decide (j < 0)) (knownG c g) 0 l a0 = a0 := by
    rw [putsG_congr l 0 a0 (fun j => decide (j < 0)) (fun _ => false) (knownG c g) g (fun j _ _ => ⟨by simp, fun h => by simp at h⟩)]
    have : ∀ (t : List Oper) k, putsG (fun _ => false) g k t a0 = a0 := by
     intro t
     induction t with
     | nil => intro k; rfl
     | cons o t ih => intro k; simp only [putsG, Bool.false_eq_true, if_false]; exact ih _
    exact this l 0
   have hGW := hw _ _ _ H.world H.down
   have hW := (GW.at (a0 := a0) ok.dsts l 0 (fun j => by simp) (by simp) (by rw [h0]; exact hGW)).1 i oi (Nat.zero_le _) hoi' hdown hfi
   rw [← hA] at hW
   have hsz : A.tmps.size = a.tmps.size := by rw [hA, H.act, putsG_size, putsG_size]
   have htm : ∀ t ∈ oi.looksAt l.toArray, a.tmps[t]? = A.tmps[t]? := fun t ht => by
    rw [hA, H.act]
    refine putsG_agree l 0 a0 a0 _ _ _ _ t rfl rfl (fun j oj hj hd => ?_)
    rw [Nat.zero_add]
    rcases ok.looks i j oi oj hoi' hj t hd ht with hjd | hjd
    rotate_left
    ·have hjl : j < l.length := (List.getElem?_eq_some_iff.1 hj).1
     have hij := (ok.told j hjl i hjd).1
     have hnl : listed.getD j false = false := by
      cases hl : listed.getD j false with
      | false => rfl
      | true => have := H.down j hl i hjd; rw [hfi] at this; cases this
     exact ⟨by show listed.getD j false = decide (j < i); rw [hnl, decide_eq_false (by omega)], fun h => by rw [hnl] at h; cases h⟩
    have hlj := hdown j hjd
    have hji := (ok.told i hilt j hjd).1
    refine ⟨by show listed.getD j false = decide (j < i); rw [hlj, decide_eq_true hji], fun _ => ?_⟩
    unfold knownG
    cases hc : c.getD j none with
    | none => rfl
    | some v => rw [H.vals j v hlj hc]; rfl
   have hex : execOp a.eval oi = execOp A.eval oi := exec_same oi (fun cs b => ok.sel i oi cs b hoi') a A htm
   have hwn : Region.wanted oi (yielded l.toArray a.tmps) = Region.wanted oi (yielded l.toArray A.tmps) := wanted_same oi a A htm
   have hadA : A.defers = a.defers := by rw [hA, H.act, putsG_defers, putsG_defers]
   -- what comes behind
   have next : ∀ (ds : List Deferred) (v : Value) (w' : World), onceC A oi (fun u w' => match c.getD i none with | some v => u = v ∧ Below w.heap.size w w' | none => U (upd (fun j => listed.getD j false) i true) (upd g i u) w') .normal ((Act.deferring A ds).put oi.dst v) w' →
     wpAnyIn F m P md l.toArray Q fuel (listed.setIfInBounds i true) ((Act.deferring a ds).put oi.dst v) w' := fun ds v w' hnx => by
    obtain ⟨hds, hR⟩ := hnx
    rw [put_defers] at hds
    have hds' : ds = a.defers := by rw [← hadA]; exact hds
    subst hds'
    have hg' : got oi ((Act.deferring A a.defers).put oi.dst v) = got oi (a.put oi.dst v) := got_put_same oi _ _ v hsz
    rw [hg'] at hR
    rw [deferring_self, ← put_got]
    refine ih (V.erase i) _ (upd g i (got oi (a.put oi.dst v))) _ w' hV' hVm' hVl' ⟨hc', ?_, ?_, ?_, ?_⟩
    ·rw [hflag, H.act]
     have := putsG_fire l 0 a0 i oi (got oi (a.put oi.dst v)) (fun j => listed.getD j false) g hoi' (by rw [Nat.zero_add]; exact hfi) (fun j oj hj hne => ok.dsts i j oi oj hoi' hj hne)
     rw [Nat.zero_add] at this
     rw [← H.act]
     rw [this, ← H.act]
    ·intro j v' hj hcj
     by_cases hji : j = i
     ·subst hji
      rw [upd_self]
      rw [hcj] at hR
      exact hR.1
     ·rw [getD_set_ne false (Ne.symm hji)] at hj
      rw [upd_ne _ _ hji]
      exact H.vals j v' hj hcj
    ·intro k hk j hj
     by_cases hki : k = i
     ·subst hki; exact getD_set_true (hdown j hj)
     ·rw [getD_set_ne false (Ne.symm hki)] at hk
      exact getD_set_true (H.down k hk j hj)
    ·rw [hflag]
     cases hc : c.getD i none with
     | none => rw [hc] at hR; exact hR
     | some v' =>
      rw [hc] at hR
      refine hi _ _ _ _ _ (fun j hj => ?_) (hg _ _ _ _ H.world hR.2)
      have hji : j ≠ i := fun e => by rw [e, hc] at hj; cases hj
      exact ⟨(upd_ne (fun j => listed.getD j false) true hji).symm, (upd_ne g _ hji).symm⟩
   unfold wpOpIn
   simp only [hoi]
   simp only [wpList] at hW
   rw [← hwn] at hW
   by_cases hwt : Region.wanted oi (yielded l.toArray a.tmps) = true
   ·rw [if_pos hwt] at hW
    rw [if_pos hwt]
    refine ⟨fun f _ => hF.fn f, ?_⟩
    rw [Oper.semAt_eq _ _ _ (hnd oi hom)]
    rcases hW with hW | ⟨_, hl⟩
    ·unfold Oper.wp at hW
     rw [← hex] at hW
     exact uponIn_frame hF hadA (fun ds v w' h => next ds v w' h) hW
    ·exact absurd hl (not_letsOut _)
   ·rw [if_neg hwt] at hW
    rw [if_neg hwt]
    refine ⟨fun f _ => hF.fn f, ?_⟩
    have := next A.defers undef w (by rw [deferring_self]; exact hW)
    rw [hadA, deferring_self] at this
    exact this
theorem wpIn_region_ghost (hF : Free F) (c : List (Option Value)) (deps : List (List Nat)) (U : (Nat → Bool) → (Nat → Value) → World → Prop) {id : Nat} {a : Act} {w : World} {l : List Oper} (hm : P.follows .mixedOrders = true) (hnd : noDefer l = true) (hB : ghostB .any l deps = true)
  (hg : ∀ f g w w', U f g w → Below w.heap.size w w' → U f g w')
  (hi : ∀ f f' g g' w, (∀ j, c.getD j none = none → f j = f' j ∧ g j = g' j) → U f g w → U f' g' w)
  (h0 : U (fun _ => false) (fun _ => undef) { w with drawn := w.drawn + 1 })
  (hw : ∀ f g w, U f g w → (∀ k, f k = true → ∀ j ∈ deps.getD k [], f j = true) → GW P l.toArray c deps U Q f g w 0 l a) : (Code.region id l.toArray true).wpIn F m P Q a w := by
 have ok := ghostOk hB
 refine wpIn_region_any hm ?_
 have hf0 : (fun j => (Array.replicate l.toArray.size false).getD j false) = fun _ => false := by funext j; exact getD_replicate_false _ _
 refine ghost_main hF ok (noDefer_spec hnd) hg hi hw l.toArray.size (List.range l.toArray.size) _ (fun _ => undef) a _ List.nodup_range (fun i => ?_) (by simp) ⟨⟨by simp, fun j oj _ hl => ?_⟩, ?_, fun j v hj => ?_, fun k hk => ?_, ?_⟩
 ·rw [List.mem_range]
  rcases Nat.lt_or_ge i l.toArray.size with h | h
  ·exact ⟨fun _ => getD_in (by simpa using h) (getD_replicate_false _ _), fun _ => h⟩
  ·refine ⟨fun h' => absurd h' (by omega), fun h' => ?_⟩
   simp only [List.size_toArray] at h
   simp [Array.getD, show ¬ i < l.length by omega] at h'
 ·rw [getD_replicate_false] at hl; cases hl
 ·rw [hf0]
  have : ∀ (t : List Oper) k, putsG (fun _ => false) (fun _ => undef) k t a = a := by
   intro t
   induction t with
   | nil => intro k; rfl
   | cons o t ih => intro k; simp only [putsG, Bool.false_eq_true, if_false]; exact ih _
  exact (this l 0).symm
 ·rw [getD_replicate_false] at hj; cases hj
 ·rw [getD_replicate_false] at hk; cases hk
 ·rw [hf0]; exact h0
theorem wp_region_ghost (c : List (Option Value)) (deps : List (List Nat)) (U : (Nat → Bool) → (Nat → Value) → World → Prop) {id : Nat} {a : Act} {w : World} {l : List Oper} (hm : P.follows .mixedOrders = true) (hnd : noDefer l = true) (hB : ghostB .any l deps = true)
  (hg : ∀ f g w w', U f g w → Below w.heap.size w w' → U f g w')
  (hi : ∀ f f' g g' w, (∀ j, c.getD j none = none → f j = f' j ∧ g j = g' j) → U f g w → U f' g' w)
  (h0 : U (fun _ => false) (fun _ => undef) { w with drawn := w.drawn + 1 })
  (hw : ∀ f g w, U f g w → (∀ k, f k = true → ∀ j ∈ deps.getD k [], f j = true) → GW P l.toArray c deps U Q f g w 0 l a) : (Code.region id l.toArray true).wp P Q a w :=
 wpIn_wide.1 (wpIn_region_ghost (m := 0) free_wide c deps U hm hnd hB hg hi h0 hw)
end
end Go.Proofs.YtlihnlkcgiopoaaDoor.Late
namespace Go.Proofs.YtlihnlkcgiopoaaDoor
section
open Go Go.RowKit
attribute [local go_sem] Oper.semAt_some Grows wide_fn
def kfN (p : Int × Int) : Ky := keyN p.1 p.2
def keysN (zs : List (Int × Int)) : List Ky := (zs.take 15).map kfN
theorem keysN_ok (zs : List (Int × Int)) : ∀ x ∈ keysN zs, KyOk x := fun x hx => by
 obtain ⟨p, _, rfl⟩ := List.mem_map.1 hx
 exact keyN_ok _ _
theorem keysN_len (zs : List (Int × Int)) : (keysN zs).length ≤ 15 := by
 unfold keysN
 rw [List.length_map, List.length_take]
 omega
def UKK (w : World) (base : Nat) (ov : Value) (l : List Ky) (x : Ky) (f : Nat → Bool) (g : Nat → Value) (w' : World) : Prop :=
 Below base w w' ∧ (f 12 = true → ∃ N, g 12 = .slice (some ⟨N, 0, none⟩) 1 1 ∧ (f 13 = false → KeysAt w' (g 12) [x])) ∧ (f 13 = false → KRow w' base ov l) ∧ (f 13 = true → KRow w' base (g 13) (l ++ [x])) ∧ (f 14 = true → f 13 = true → g 14 = g 13)
theorem keys_any (W : World) (v : Value) (zs : List (Int × Int)) (hr : RawAt W v zs) : Calls Tryd.prog 47 #[v] W fun e w' => ∃ v', e = .returned v' ∧ KRow w' W.heap.size v' (keysN zs) ∧ Below W.heap.size W w' := by
 have hmx : Tryd.prog.follows .mixedOrders = true := by kernel_rfl
 have HR := hid hr
 obtain ⟨a, cap, rfl, hnc, hcm, _⟩ := hr
 obtain ⟨n, hn⟩ : ∃ n, zs.length = n := ⟨_, rfl⟩
 rw [hn] at HR hnc ⊢
 have HN := hid hn
 have hlc := hid (Nat.le_trans hnc hcm)
 have HF := hid (show ∀ j, (j = 15 ∨ (j = n ∧ n ≤ 15)) → (zs.take j).map kfN = keysN zs from fun j h => by
  unfold keysN
  rcases h with rfl | ⟨rfl, h⟩
  ·rfl
  ·rw [List.take_of_length_le (by omega), List.take_of_length_le (by omega)])
 clear hnc hcm hn
 go_enter Tryd.func47, Tryd.ntmps47
 go_wp2_with fail
 go_loopw [3, 4] (fun ov i wr => ∃ k : Nat, i = .int .i64 (k : Int) ∧ k ≤ n ∧ k ≤ 15 ∧ KRow wr W.heap.size ov ((zs.take k).map kfN) ∧ Below W.heap.size W wr) (fun _ i _ => n - (intOf i).toNat)
 case atStart => exact ⟨0, rfl, by omega, by omega, KRow.nil _ _, Below.refl _ _⟩
 case round =>
  obtain ⟨k, rfl, hkn, hk15, hrow, hq⟩ := hrel
  obtain ⟨ov, hov⟩ : ∃ ov, ov = u3 := ⟨_, rfl⟩
  subst hov
  obtain ⟨w0, hw0⟩ : ∃ w0, w0 = wr := ⟨_, rfl⟩
  subst hw0
  have HQ := hid hq
  have HROW := hid hrow
  have HK := hid (And.intro hkn hk15)
  clear hq hrow
  by_cases hk : k < n ∧ k < 15
  ·have hknI : (k : Int) < (n : Int) := by omega
   have hk15I : (k : Int) < 15 := by omega
   have hk0 : (0 : Int) ≤ (k : Int) := by omega
   obtain ⟨p, hp⟩ : ∃ p, zs[k]? = some p := ⟨_, List.getElem?_eq_getElem (by have := HN.out; omega)⟩
   obtain ⟨a', cap', e', _, _, hall⟩ := HR.out
   injection e' with e1 e2 e3
   subst e1 e3
   obtain ⟨i1, i2, b, rfl, _⟩ := hall k p hp
   have HC := hid (fun (X : World) (hX : Below W.heap.size W X) => (show X.cell? (b.add (k * 2)) = some (.int .i64 p.1) ∧ X.cell? ⟨(b.add (k * 2)).block, (b.add (k * 2)).off + 1, none⟩ = some (.int .i64 p.2) from by
    obtain ⟨_, _, e', _, _, hall'⟩ := HR.out.later hX
    injection e' with e1 _ _
    subst e1
    obtain ⟨_, _, b', e'', h1, h2⟩ := hall' k p hp
    injection e'' with e''
    subst e''
    exact ⟨h1, h2⟩))
   have KY := hid (fun X => key10_any X p.1 p.2 i1 i2)
   have HNX := hid (show (zs.take (k + 1)).map kfN = (zs.take k).map kfN ++ [keyN p.1 p.2] by
    rw [List.take_add_one, List.map_append, hp]
    rfl)
   have HXO := hid (keyN_ok p.1 p.2)
   have HLL := hid (show ((zs.take k).map kfN).length = k by rw [List.length_map, List.length_take]; have := HN.out; omega)
   have hkk := hid hk
   clear hk hkn hk15 e2 hall hp
   generalize (zs.take k).map kfN = l at *
   generalize keyN p.1 p.2 = x at *
   generalize p.1 = p1 at *
   generalize p.2 = p2 at *
   go_wp2_with fail
   refine Late.wp_region_ghost [some ov, some (.slice (some b) n cap), some (.int .i64 (k : Int)), some (.pointer (some (b.add (k * 2)))), some (.pointer (some (b.add (k * 2)))), some (.int .i64 p1), some (.slice (some b) n cap), some (.int .i64 (k : Int)), some (.pointer (some (b.add (k * 2)))), some (.pointer (some ⟨(b.add (k * 2)).block, (b.add (k * 2)).off + 1, none⟩)), some (.int .i64 p2), some (.agg (kyC x)), none, none, none] [[], [], [], [1, 2], [1, 2, 3], [1, 2, 3, 4], [], [], [6, 7], [6, 7, 8], [6, 7, 8, 9], [1, 2, 3, 4, 5, 6, 7, 8, 9, 10], [1, 2, 3, 4, 5, 6, 7, 8, 9, 10, 11], [0, 1, 2, 3, 4, 5, 6, 7, 8, 9, 10, 11, 12], [0, 1, 2, 3, 4, 5, 6, 7, 8, 9, 10, 11, 12, 13]] (UKK w0 W.heap.size ov l x)
    (by kernel_rfl) (by kernel_rfl) (by kernel_rfl) ?_ ?_ ?_ ?_
   ·rintro f g wa wb ⟨h1, h2, h3, h4, h5⟩ hb
    exact ⟨h1.trans (hb.mono (Nat.le_trans HQ.out.size h1.size)), fun h => let ⟨N, e, hN⟩ := h2 h; ⟨N, e, fun h' => (hN h').later hb⟩, fun h => (h3 h).later hb, fun h => (h4 h).later hb, h5⟩
   ·rintro f f' g g' wa h ⟨h1, h2, h3, h4, h5⟩
    have a12 := h 12 rfl
    have a13 := h 13 rfl
    have a14 := h 14 rfl
    refine ⟨h1, fun e => ?_, fun e => h3 (a13.1.trans e), fun e => ?_, fun e e' => ?_⟩
    ·obtain ⟨N, e1, e2⟩ := h2 (a12.1.trans e)
     exact ⟨N, a12.2.symm.trans e1, fun h' => by rw [← a12.2]; exact e2 (a13.1.trans h')⟩
    ·rw [← a13.2]; exact h4 (a13.1.trans e)
    ·rw [← a14.2, ← a13.2]; exact h5 (a14.1.trans e) (a13.1.trans e')
   ·exact ⟨(Below.refl _ _).drew, by simp, fun _ => HROW.out.later (Below.refl _ _).drew, by simp, by simp⟩
   rintro f g y hU0 Dn
   have hU := hid hU0
   have q1 := HQ.out.trans (hU0.1.mono (Nat.le_refl _))
   have kc0 := (HC.out y q1).1
   have kc1 := (HC.out y q1).2
   have QY := hid q1
   clear hU0 q1
   refine GW.known _ rfl (fun hd hf => ?_) ?_
   ·go_wp2
    exact ⟨rfl, rfl, Below.refl _ _⟩
   simp only [Act.put, sT, sS, sZ]
   refine GW.known _ rfl (fun hd hf => ?_) ?_
   ·go_wp2
    exact ⟨rfl, rfl, Below.refl _ _⟩
   simp only [Act.put, sT, sS, sZ]
   refine GW.known _ rfl (fun hd hf => ?_) ?_
   ·go_wp2
    exact ⟨rfl, rfl, Below.refl _ _⟩
   simp only [Act.put, sT, sS, sZ]
   refine GW.known _ rfl (fun hd hf => ?_) ?_
   ·go_wp2
    exact ⟨rfl, rfl, Below.refl _ _⟩
   simp only [Act.put, sT, sS, sZ]
   refine GW.known _ rfl (fun hd hf => ?_) ?_
   ·go_wp2
    exact ⟨rfl, rfl, Below.refl _ _⟩
   simp only [Act.put, sT, sS, sZ]
   refine GW.known _ rfl (fun hd hf => ?_) ?_
   ·go_wp2
    exact ⟨rfl, rfl, Below.refl _ _⟩
   simp only [Act.put, sT, sS, sZ]
   refine GW.known _ rfl (fun hd hf => ?_) ?_
   ·go_wp2
    exact ⟨rfl, rfl, Below.refl _ _⟩
   simp only [Act.put, sT, sS, sZ]
   refine GW.known _ rfl (fun hd hf => ?_) ?_
   ·go_wp2
    exact ⟨rfl, rfl, Below.refl _ _⟩
   simp only [Act.put, sT, sS, sZ]
   refine GW.known _ rfl (fun hd hf => ?_) ?_
   ·go_wp2
    exact ⟨rfl, rfl, Below.refl _ _⟩
   simp only [Act.put, sT, sS, sZ]
   refine GW.known _ rfl (fun hd hf => ?_) ?_
   ·go_wp2
    exact ⟨rfl, rfl, Below.refl _ _⟩
   simp only [Act.put, sT, sS, sZ]
   refine GW.known _ rfl (fun hd hf => ?_) ?_
   ·go_wp2
    exact ⟨rfl, rfl, Below.refl _ _⟩
   simp only [Act.put, sT, sS, sZ]
   refine GW.known _ rfl (fun hd hf => ?_) ?_
   ·go_wp2_with fail
    refine (KY.out _).mono ?_
    rintro e u ⟨rfl, hb⟩
    go_wp2
    exact ⟨rfl, rfl, hb⟩
   simp only [Act.put, sT, sS, sZ]
   refine GW.open rfl (fun hd hf => ?_) ?_
   ·have f13 : f 13 = false := by
     cases h : f 13 with
     | false => rfl
     | true => have := Dn 13 h 12 (by decide); rw [hf] at this; cases this
    have f14 : f 14 = false := by
     cases h : f 14 with
     | false => rfl
     | true => have := Dn 14 h 12 (by decide); rw [hf] at this; cases this
    have hm := keys_made y [x] (by intro z hz; simp at hz; subst hz; exact HXO.out) (by simp)
    have qa := newA y (.cells (flatKy [x]).toArray 58)
    have K := hid (show UKK w0 W.heap.size ov l x (upd f 12 true) (upd g 12 (.slice (some ⟨y.heap.size, 0, none⟩) 1 1)) (y.alloc (.cells (flatKy [x]).toArray 58)) from
     ⟨hU.out.1.trans (qa.mono QY.out.size), fun _ => ⟨y.heap.size, upd_self g 12 _, fun _ => by rw [upd_self]; exact hm⟩, fun _ => (hU.out.2.2.1 f13).later qa, fun h => absurd ((upd_ne f true (show (13 : Nat) ≠ 12 by decide)).symm.trans h) (by rw [f13]; simp), fun h => absurd ((upd_ne f true (show (14 : Nat) ≠ 12 by decide)).symm.trans h) (by rw [f14]; simp)⟩)
    clear hm qa
    refine wpList_build_k1 rfl (.tmp 26) rfl x rfl ?_
    go_wp2
    exact ⟨rfl, K.out⟩
   simp only [Act.put, sT, sS, sZ]
   refine GW.open rfl (fun hd hf => ?_) ?_
   ·have f14 : f 14 = false := by
     cases h : f 14 with
     | false => rfl
     | true => have := Dn 14 h 13 (by decide); rw [hf] at this; cases this
    obtain ⟨N, eN, hN⟩ := hU.out.2.1 (hd 12 (by decide))
    obtain ⟨v', w', happ, hrow', _, hbel⟩ := append_keys y W.heap.size ov l (hU.out.2.2.1 hf) QY.out.size (g 12) [x] (hN hf) (by have := HLL.out; have := HK.out; simp; omega)
    have K := hid (show UKK w0 W.heap.size ov l x (upd f 13 true) (upd g 13 v') w' from
     ⟨hU.out.1.trans hbel, fun _ => ⟨N, (upd_ne g _ (show (12 : Nat) ≠ 13 by decide)).trans eN, fun h => absurd ((upd_self f 13 true).symm.trans h) (by simp)⟩, fun h => absurd ((upd_self f 13 true).symm.trans h) (by simp), fun _ => by rw [upd_self]; exact hrow', fun h => absurd ((upd_ne f true (show (14 : Nat) ≠ 13 by decide)).symm.trans h) (by rw [f14]; simp)⟩)
    clear hrow' hbel hN eN
    refine wpList_append_runK rfl (.tmp 15) (.tmp 27) 28 rfl _ _ _ rfl rfl happ ?_
    go_wp2
    exact ⟨rfl, K.out⟩
   simp only [Act.put, sT, sS, sZ]
   refine GW.open rfl (fun hd hf => ?_) ?_
   ·have e13 := hd 13 (by decide)
    have K := hid (show UKK w0 W.heap.size ov l x (upd f 14 true) (upd g 14 (g 13)) y from
     ⟨hU.out.1, fun h => let ⟨N, e, hN⟩ := hU.out.2.1 (hd 12 (by decide)); ⟨N, (upd_ne g _ (show (12 : Nat) ≠ 14 by decide)).trans e, fun h' => by rw [upd_ne g _ (show (12 : Nat) ≠ 14 by decide)]; exact hN ((upd_ne f true (show (13 : Nat) ≠ 14 by decide)).symm.trans h')⟩, fun h => hU.out.2.2.1 ((upd_ne f true (show (13 : Nat) ≠ 14 by decide)).symm.trans h), fun h => by rw [upd_ne g _ (show (13 : Nat) ≠ 14 by decide)]; exact hU.out.2.2.2.1 e13, fun _ _ => by rw [upd_self, upd_ne g _ (show (13 : Nat) ≠ 14 by decide)]⟩)
    go_wp2
    exact ⟨rfl, K.out⟩
   simp only [Act.put, sT, sS, sZ]
   refine GW.nil (fun hall => ?_)
   have e13 := hall 13 (by omega)
   have O13 := hid (hU.out.2.2.2.1 e13)
   have E14 := hU.out.2.2.2.2 (hall 14 (by omega)) e13
   rw [E14]
   have QF := hid QY.out
   clear hU Dn hall E14 e13 kc0 kc1
   generalize g 13 = v9 at *
   generalize g 12 = v8 at *
   go_wp2
   go_roundw
   case rel => exact ⟨k + 1, by simp, by have := hkk.out; omega, by have := hkk.out; omega, by rw [HNX.out]; exact O13.out, QF.out⟩
   case measure => have := hkk.out; simp [intOf]; omega
  ·by_cases h1 : k < n
   ·obtain rfl : k = 15 := by have := HK.out; omega
    have hI : (15 : Int) < (n : Int) := by omega
    have R := hid (show KRow w0 W.heap.size ov (keysN zs) from by have h := HROW.out; rw [HF.out 15 (.inl rfl)] at h; exact h)
    go_wp2_with fail
    go_ret
    exact ⟨_, rfl, R.out, HQ.out⟩
   ·obtain rfl : k = n := by have := HK.out; omega
    have hnn : ¬ (k : Int) < (k : Int) := by omega
    have R := hid (show KRow w0 W.heap.size ov (keysN zs) from by have h := HROW.out; rw [HF.out k (.inr ⟨rfl, HK.out.2⟩)] at h; exact h)
    go_wp2_with fail
    go_ret
    exact ⟨_, rfl, R.out, HQ.out⟩
end
end Go.Proofs.YtlihnlkcgiopoaaDoor
