/- The laws' helpers: pick, Addr, Key. Conditions: none. -/
import Derived.Test.YtbkgipggblphlaaAcI
namespace Go.Proofs.Ytbkgipggblphlaa
open Go Go.RowKit
attribute [local go_sem] Oper.semAt_some Grows wide_fn

/-- What a raw number speaks of, of m things. -/
def pickN (c m : Int) : Int := (if c < 0 then -(c + 1) else c) % m
theorem pickN_range (c m : Int) (hm : 0 < m) : 0 ≤ pickN c m ∧ pickN c m < m := by
  unfold pickN
  exact ⟨Int.emod_nonneg _ (by omega), Int.emod_lt_of_pos _ hm⟩
theorem pick10_ret (c : Int) (hc : I64 c) (m : Int) (hm : 0 < m) (hm2 : m ≤ 4611686018427387903) : Ret Try.prog 7 #[.int .i64 c, .int .i64 m] (.int .i64 (pickN c m)) := by
  refine Ret.of_same fun w => ?_
  unfold I64 at hc
  unfold pickN
  by_cases h : c < 0
  · rw [if_pos h]
    have h0 : (0 : Int) ≤ -(c + 1) := by omega
    have h1 : -(c + 1) < 9223372036854775808 := by omega
    have q0 := Int.emod_nonneg (-(c + 1)) (show m ≠ 0 by omega)
    have q1 := Int.emod_lt_of_pos (-(c + 1)) hm
    have e := Int.tmod_eq_emod_of_nonneg h0 (b := m)
    go_enter Try.func7, Try.ntmps7
    go_wp2
    go_ret
    exact ⟨rfl, rfl⟩
  · rw [if_neg h]
    have q0 := Int.emod_nonneg c (show m ≠ 0 by omega)
    have q1 := Int.emod_lt_of_pos c hm
    have e := Int.tmod_eq_emod_of_nonneg (show 0 ≤ c by omega) (b := m)
    go_enter Try.func7, Try.ntmps7
    go_wp2
    go_ret
    exact ⟨rfl, rfl⟩
theorem pick8_ret (c : Int) (hc : I64 c) (m : Int) (hm : 0 < m) (hm2 : m ≤ 4611686018427387903) : Ret Try.prog 59 #[.int .i64 c, .int .i64 m] (.int .i64 (pickN c m)) := by
  refine Ret.of_same fun w => ?_
  unfold I64 at hc
  unfold pickN
  by_cases h : c < 0
  · rw [if_pos h]
    have h0 : (0 : Int) ≤ -(c + 1) := by omega
    have h1 : -(c + 1) < 9223372036854775808 := by omega
    have q0 := Int.emod_nonneg (-(c + 1)) (show m ≠ 0 by omega)
    have q1 := Int.emod_lt_of_pos (-(c + 1)) hm
    have e := Int.tmod_eq_emod_of_nonneg h0 (b := m)
    go_enter Try.func59, Try.ntmps59
    go_wp2
    go_ret
    exact ⟨rfl, rfl⟩
  · rw [if_neg h]
    have q0 := Int.emod_nonneg c (show m ≠ 0 by omega)
    have q1 := Int.emod_lt_of_pos c hm
    have e := Int.tmod_eq_emod_of_nonneg (show 0 ≤ c by omega) (b := m)
    go_enter Try.func59, Try.ntmps59
    go_wp2
    go_ret
    exact ⟨rfl, rfl⟩
/-- The address of number k. -/
def adrN (k : Int) : Nat := k.toNat + (if 5 < k then 256 ^ 19 else 0)
theorem adrN_lt {k : Int} (h : k < 9) : adrN k < 256 ^ 20 := by
  unfold adrN
  split <;> omega
theorem adrN_cells0 : adC (adrN 0) = #[.int .u8 0, .int .u8 0, .int .u8 0, .int .u8 0, .int .u8 0, .int .u8 0, .int .u8 0, .int .u8 0, .int .u8 0, .int .u8 0, .int .u8 0, .int .u8 0, .int .u8 0, .int .u8 0, .int .u8 0, .int .u8 0, .int .u8 0, .int .u8 0, .int .u8 0, .int .u8 0] := by kernel_rfl
theorem adrN_cells1 : adC (adrN 1) = #[.int .u8 0, .int .u8 0, .int .u8 0, .int .u8 0, .int .u8 0, .int .u8 0, .int .u8 0, .int .u8 0, .int .u8 0, .int .u8 0, .int .u8 0, .int .u8 0, .int .u8 0, .int .u8 0, .int .u8 0, .int .u8 0, .int .u8 0, .int .u8 0, .int .u8 0, .int .u8 1] := by kernel_rfl
theorem adrN_cells2 : adC (adrN 2) = #[.int .u8 0, .int .u8 0, .int .u8 0, .int .u8 0, .int .u8 0, .int .u8 0, .int .u8 0, .int .u8 0, .int .u8 0, .int .u8 0, .int .u8 0, .int .u8 0, .int .u8 0, .int .u8 0, .int .u8 0, .int .u8 0, .int .u8 0, .int .u8 0, .int .u8 0, .int .u8 2] := by kernel_rfl
theorem adrN_cells3 : adC (adrN 3) = #[.int .u8 0, .int .u8 0, .int .u8 0, .int .u8 0, .int .u8 0, .int .u8 0, .int .u8 0, .int .u8 0, .int .u8 0, .int .u8 0, .int .u8 0, .int .u8 0, .int .u8 0, .int .u8 0, .int .u8 0, .int .u8 0, .int .u8 0, .int .u8 0, .int .u8 0, .int .u8 3] := by kernel_rfl
theorem adrN_cells4 : adC (adrN 4) = #[.int .u8 0, .int .u8 0, .int .u8 0, .int .u8 0, .int .u8 0, .int .u8 0, .int .u8 0, .int .u8 0, .int .u8 0, .int .u8 0, .int .u8 0, .int .u8 0, .int .u8 0, .int .u8 0, .int .u8 0, .int .u8 0, .int .u8 0, .int .u8 0, .int .u8 0, .int .u8 4] := by kernel_rfl
theorem adrN_cells5 : adC (adrN 5) = #[.int .u8 0, .int .u8 0, .int .u8 0, .int .u8 0, .int .u8 0, .int .u8 0, .int .u8 0, .int .u8 0, .int .u8 0, .int .u8 0, .int .u8 0, .int .u8 0, .int .u8 0, .int .u8 0, .int .u8 0, .int .u8 0, .int .u8 0, .int .u8 0, .int .u8 0, .int .u8 5] := by kernel_rfl
theorem adrN_cells6 : adC (adrN 6) = #[.int .u8 1, .int .u8 0, .int .u8 0, .int .u8 0, .int .u8 0, .int .u8 0, .int .u8 0, .int .u8 0, .int .u8 0, .int .u8 0, .int .u8 0, .int .u8 0, .int .u8 0, .int .u8 0, .int .u8 0, .int .u8 0, .int .u8 0, .int .u8 0, .int .u8 0, .int .u8 6] := by kernel_rfl
theorem adrN_cells7 : adC (adrN 7) = #[.int .u8 1, .int .u8 0, .int .u8 0, .int .u8 0, .int .u8 0, .int .u8 0, .int .u8 0, .int .u8 0, .int .u8 0, .int .u8 0, .int .u8 0, .int .u8 0, .int .u8 0, .int .u8 0, .int .u8 0, .int .u8 0, .int .u8 0, .int .u8 0, .int .u8 0, .int .u8 7] := by kernel_rfl
theorem adrN_cells8 : adC (adrN 8) = #[.int .u8 1, .int .u8 0, .int .u8 0, .int .u8 0, .int .u8 0, .int .u8 0, .int .u8 0, .int .u8 0, .int .u8 0, .int .u8 0, .int .u8 0, .int .u8 0, .int .u8 0, .int .u8 0, .int .u8 0, .int .u8 0, .int .u8 0, .int .u8 0, .int .u8 0, .int .u8 8] := by kernel_rfl
set_option maxRecDepth 100000 in
set_option maxHeartbeats 4000000 in
theorem addr8_any (W : World) (c : Int) (hc : I64 c) : Calls Try.prog 42 #[.int .i64 c] W fun e w' => e = .returned (.agg (adC (adrN (pickN c 9)))) ∧ Below W.heap.size W w' := by
  have PK := Lib.hid (pick8_ret c hc 9 (by decide) (by decide))
  obtain ⟨k0, k1⟩ := pickN_range c 9 (by decide)
  generalize pickN c 9 = k at *
  have hr := (Has.new W 26 #[.int .u8 0, .int .u8 0, .int .u8 0, .int .u8 0, .int .u8 0, .int .u8 0, .int .u8 0, .int .u8 0, .int .u8 0, .int .u8 0, .int .u8 0, .int .u8 0, .int .u8 0, .int .u8 0, .int .u8 0, .int .u8 0, .int .u8 0, .int .u8 0, .int .u8 0, .int .u8 0]).alloc (.cells #[.int .u8 0, .int .u8 0, .int .u8 0, .int .u8 0, .int .u8 0, .int .u8 0, .int .u8 0, .int .u8 0, .int .u8 0, .int .u8 0, .int .u8 0, .int .u8 0, .int .u8 0, .int .u8 0, .int .u8 0, .int .u8 0, .int .u8 0, .int .u8 0, .int .u8 0, .int .u8 0] 26)
  have ht := Has.new (W.alloc (.cells #[.int .u8 0, .int .u8 0, .int .u8 0, .int .u8 0, .int .u8 0, .int .u8 0, .int .u8 0, .int .u8 0, .int .u8 0, .int .u8 0, .int .u8 0, .int .u8 0, .int .u8 0, .int .u8 0, .int .u8 0, .int .u8 0, .int .u8 0, .int .u8 0, .int .u8 0, .int .u8 0] 26)) 26 #[.int .u8 0, .int .u8 0, .int .u8 0, .int .u8 0, .int .u8 0, .int .u8 0, .int .u8 0, .int .u8 0, .int .u8 0, .int .u8 0, .int .u8 0, .int .u8 0, .int .u8 0, .int .u8 0, .int .u8 0, .int .u8 0, .int .u8 0, .int .u8 0, .int .u8 0, .int .u8 0]
  simp only [World.size_alloc] at ht
  have q0 := ((Below.refl W.heap.size W).alloc (Nat.le_refl _) (.cells #[.int .u8 0, .int .u8 0, .int .u8 0, .int .u8 0, .int .u8 0, .int .u8 0, .int .u8 0, .int .u8 0, .int .u8 0, .int .u8 0, .int .u8 0, .int .u8 0, .int .u8 0, .int .u8 0, .int .u8 0, .int .u8 0, .int .u8 0, .int .u8 0, .int .u8 0, .int .u8 0] 26)).alloc (by simp) (.cells #[.int .u8 0, .int .u8 0, .int .u8 0, .int .u8 0, .int .u8 0, .int .u8 0, .int .u8 0, .int .u8 0, .int .u8 0, .int .u8 0, .int .u8 0, .int .u8 0, .int .u8 0, .int .u8 0, .int .u8 0, .int .u8 0, .int .u8 0, .int .u8 0, .int .u8 0, .int .u8 0] 26)
  obtain ⟨V, hV⟩ : ∃ V, (W.alloc (.cells #[.int .u8 0, .int .u8 0, .int .u8 0, .int .u8 0, .int .u8 0, .int .u8 0, .int .u8 0, .int .u8 0, .int .u8 0, .int .u8 0, .int .u8 0, .int .u8 0, .int .u8 0, .int .u8 0, .int .u8 0, .int .u8 0, .int .u8 0, .int .u8 0, .int .u8 0, .int .u8 0] 26)).alloc (.cells #[.int .u8 0, .int .u8 0, .int .u8 0, .int .u8 0, .int .u8 0, .int .u8 0, .int .u8 0, .int .u8 0, .int .u8 0, .int .u8 0, .int .u8 0, .int .u8 0, .int .u8 0, .int .u8 0, .int .u8 0, .int .u8 0, .int .u8 0, .int .u8 0, .int .u8 0, .int .u8 0] 26) = V := ⟨_, rfl⟩
  rw [hV] at hr ht q0
  have HR := Lib.hid hr
  have HT := Lib.hid ht
  have Q := Lib.hid q0
  clear hr ht q0
  go_enter Try.func42, Try.ntmps42
  go_wp2_with fail
  clear hV
  refine (PK.out _).mono ?_
  rintro _ w1 ⟨rfl, hb1⟩
  have Q1 := Lib.hid (Q.out.trans (hb1.mono Q.out.size))
  have hr := HR.out.later hb1
  have ht := HT.out.later hb1
  have c19 := ht.cell 19 _ rfl
  have f19 := ht.frozen 19
  have c0 := ht.cell 0 _ rfl
  have f0 := ht.frozen 0
  clear hb1 HR HT PK Q
  have hk : k = 0 ∨ k = 1 ∨ k = 2 ∨ k = 3 ∨ k = 4 ∨ k = 5 ∨ k = 6 ∨ k = 7 ∨ k = 8 := by omega
  clear k0 k1
  rcases hk with rfl | rfl | rfl | rfl | rfl | rfl | rfl | rfl | rfl
  · have hr1 := hr.other (p := ⟨W.heap.size + 1, 19, none⟩) (by simp) (.int .u8 0)
    have ht1 := ht.set 19 (.int .u8 0)
    have q1 := Q1.out.setCell (p := ⟨W.heap.size + 1, 19, none⟩) (by simp) (.int .u8 0)
    obtain ⟨U, hU⟩ : ∃ U, w1.setCell ⟨W.heap.size + 1, 19, none⟩ (.int .u8 0) = U := ⟨_, rfl⟩
    rw [hU] at hr1 ht1 q1
    replace ht1 : Has U (W.heap.size + 1) 26 #[.int .u8 0, .int .u8 0, .int .u8 0, .int .u8 0, .int .u8 0, .int .u8 0, .int .u8 0, .int .u8 0, .int .u8 0, .int .u8 0, .int .u8 0, .int .u8 0, .int .u8 0, .int .u8 0, .int .u8 0, .int .u8 0, .int .u8 0, .int .u8 0, .int .u8 0, .int .u8 0] := ht1
    have LD := run_loadVar_row (P := Try.prog) U (W.heap.size + 1) 26 26 _ (0, 0) _ ht1 Try.underlying26 rfl infoAd
    have hF : Has (U.setRow W.heap.size #[.int .u8 0, .int .u8 0, .int .u8 0, .int .u8 0, .int .u8 0, .int .u8 0, .int .u8 0, .int .u8 0, .int .u8 0, .int .u8 0, .int .u8 0, .int .u8 0, .int .u8 0, .int .u8 0, .int .u8 0, .int .u8 0, .int .u8 0, .int .u8 0, .int .u8 0, .int .u8 0]) W.heap.size 26 #[.int .u8 0, .int .u8 0, .int .u8 0, .int .u8 0, .int .u8 0, .int .u8 0, .int .u8 0, .int .u8 0, .int .u8 0, .int .u8 0, .int .u8 0, .int .u8 0, .int .u8 0, .int .u8 0, .int .u8 0, .int .u8 0, .int .u8 0, .int .u8 0, .int .u8 0, .int .u8 0] := setRow_heap _ _ _ _ _ _ hr1
    have qF := Lib.hid (below_rowK q1 (g := W.heap.size) (Nat.le_refl _) #[.int .u8 0, .int .u8 0, .int .u8 0, .int .u8 0, .int .u8 0, .int .u8 0, .int .u8 0, .int .u8 0, .int .u8 0, .int .u8 0, .int .u8 0, .int .u8 0, .int .u8 0, .int .u8 0, .int .u8 0, .int .u8 0, .int .u8 0, .int .u8 0, .int .u8 0, .int .u8 0])
    have HO := Lib.hid (show (#[.int .u8 0, .int .u8 0, .int .u8 0, .int .u8 0, .int .u8 0, .int .u8 0, .int .u8 0, .int .u8 0, .int .u8 0, .int .u8 0, .int .u8 0, .int .u8 0, .int .u8 0, .int .u8 0, .int .u8 0, .int .u8 0, .int .u8 0, .int .u8 0, .int .u8 0, .int .u8 0] : Array Value).all (·.oneCell') = true by kernel_rfl)
    have HL := Lib.hid LD
    have HRR := Lib.hid hr1
    have HFF := Lib.hid hF
    clear LD hF hr ht hr1 ht1 q1 
    go_wp2_with (first | (refine wpList_load_known rfl _ (.tmp 3) rfl _ rfl _ HL.out ?_) | (refine wpList_store_row rfl _ (.tmp 2) (.tmp 13) rfl _ _ rfl rfl _ _ HRR.out infoAd rfl HO.out ?_))
    try simp only [Exit.inBlock, Exit.then]
    refine bodyPost_ret (results_cell_row rfl _ _ W.heap.size 26 _ (0, 0) _ rfl HFF.out Try.underlying26 rfl infoAd) rfl ?_
    exact ⟨by rw [adrN_cells0], qF.out⟩
  · have hr1 := hr.other (p := ⟨W.heap.size + 1, 19, none⟩) (by simp) (.int .u8 1)
    have ht1 := ht.set 19 (.int .u8 1)
    have q1 := Q1.out.setCell (p := ⟨W.heap.size + 1, 19, none⟩) (by simp) (.int .u8 1)
    obtain ⟨U, hU⟩ : ∃ U, w1.setCell ⟨W.heap.size + 1, 19, none⟩ (.int .u8 1) = U := ⟨_, rfl⟩
    rw [hU] at hr1 ht1 q1
    replace ht1 : Has U (W.heap.size + 1) 26 #[.int .u8 0, .int .u8 0, .int .u8 0, .int .u8 0, .int .u8 0, .int .u8 0, .int .u8 0, .int .u8 0, .int .u8 0, .int .u8 0, .int .u8 0, .int .u8 0, .int .u8 0, .int .u8 0, .int .u8 0, .int .u8 0, .int .u8 0, .int .u8 0, .int .u8 0, .int .u8 1] := ht1
    have LD := run_loadVar_row (P := Try.prog) U (W.heap.size + 1) 26 26 _ (0, 0) _ ht1 Try.underlying26 rfl infoAd
    have hF : Has (U.setRow W.heap.size #[.int .u8 0, .int .u8 0, .int .u8 0, .int .u8 0, .int .u8 0, .int .u8 0, .int .u8 0, .int .u8 0, .int .u8 0, .int .u8 0, .int .u8 0, .int .u8 0, .int .u8 0, .int .u8 0, .int .u8 0, .int .u8 0, .int .u8 0, .int .u8 0, .int .u8 0, .int .u8 1]) W.heap.size 26 #[.int .u8 0, .int .u8 0, .int .u8 0, .int .u8 0, .int .u8 0, .int .u8 0, .int .u8 0, .int .u8 0, .int .u8 0, .int .u8 0, .int .u8 0, .int .u8 0, .int .u8 0, .int .u8 0, .int .u8 0, .int .u8 0, .int .u8 0, .int .u8 0, .int .u8 0, .int .u8 1] := setRow_heap _ _ _ _ _ _ hr1
    have qF := Lib.hid (below_rowK q1 (g := W.heap.size) (Nat.le_refl _) #[.int .u8 0, .int .u8 0, .int .u8 0, .int .u8 0, .int .u8 0, .int .u8 0, .int .u8 0, .int .u8 0, .int .u8 0, .int .u8 0, .int .u8 0, .int .u8 0, .int .u8 0, .int .u8 0, .int .u8 0, .int .u8 0, .int .u8 0, .int .u8 0, .int .u8 0, .int .u8 1])
    have HO := Lib.hid (show (#[.int .u8 0, .int .u8 0, .int .u8 0, .int .u8 0, .int .u8 0, .int .u8 0, .int .u8 0, .int .u8 0, .int .u8 0, .int .u8 0, .int .u8 0, .int .u8 0, .int .u8 0, .int .u8 0, .int .u8 0, .int .u8 0, .int .u8 0, .int .u8 0, .int .u8 0, .int .u8 1] : Array Value).all (·.oneCell') = true by kernel_rfl)
    have HL := Lib.hid LD
    have HRR := Lib.hid hr1
    have HFF := Lib.hid hF
    clear LD hF hr ht hr1 ht1 q1 
    go_wp2_with (first | (refine wpList_load_known rfl _ (.tmp 3) rfl _ rfl _ HL.out ?_) | (refine wpList_store_row rfl _ (.tmp 2) (.tmp 13) rfl _ _ rfl rfl _ _ HRR.out infoAd rfl HO.out ?_))
    try simp only [Exit.inBlock, Exit.then]
    refine bodyPost_ret (results_cell_row rfl _ _ W.heap.size 26 _ (0, 0) _ rfl HFF.out Try.underlying26 rfl infoAd) rfl ?_
    exact ⟨by rw [adrN_cells1], qF.out⟩
  · have hr1 := hr.other (p := ⟨W.heap.size + 1, 19, none⟩) (by simp) (.int .u8 2)
    have ht1 := ht.set 19 (.int .u8 2)
    have q1 := Q1.out.setCell (p := ⟨W.heap.size + 1, 19, none⟩) (by simp) (.int .u8 2)
    obtain ⟨U, hU⟩ : ∃ U, w1.setCell ⟨W.heap.size + 1, 19, none⟩ (.int .u8 2) = U := ⟨_, rfl⟩
    rw [hU] at hr1 ht1 q1
    replace ht1 : Has U (W.heap.size + 1) 26 #[.int .u8 0, .int .u8 0, .int .u8 0, .int .u8 0, .int .u8 0, .int .u8 0, .int .u8 0, .int .u8 0, .int .u8 0, .int .u8 0, .int .u8 0, .int .u8 0, .int .u8 0, .int .u8 0, .int .u8 0, .int .u8 0, .int .u8 0, .int .u8 0, .int .u8 0, .int .u8 2] := ht1
    have LD := run_loadVar_row (P := Try.prog) U (W.heap.size + 1) 26 26 _ (0, 0) _ ht1 Try.underlying26 rfl infoAd
    have hF : Has (U.setRow W.heap.size #[.int .u8 0, .int .u8 0, .int .u8 0, .int .u8 0, .int .u8 0, .int .u8 0, .int .u8 0, .int .u8 0, .int .u8 0, .int .u8 0, .int .u8 0, .int .u8 0, .int .u8 0, .int .u8 0, .int .u8 0, .int .u8 0, .int .u8 0, .int .u8 0, .int .u8 0, .int .u8 2]) W.heap.size 26 #[.int .u8 0, .int .u8 0, .int .u8 0, .int .u8 0, .int .u8 0, .int .u8 0, .int .u8 0, .int .u8 0, .int .u8 0, .int .u8 0, .int .u8 0, .int .u8 0, .int .u8 0, .int .u8 0, .int .u8 0, .int .u8 0, .int .u8 0, .int .u8 0, .int .u8 0, .int .u8 2] := setRow_heap _ _ _ _ _ _ hr1
    have qF := Lib.hid (below_rowK q1 (g := W.heap.size) (Nat.le_refl _) #[.int .u8 0, .int .u8 0, .int .u8 0, .int .u8 0, .int .u8 0, .int .u8 0, .int .u8 0, .int .u8 0, .int .u8 0, .int .u8 0, .int .u8 0, .int .u8 0, .int .u8 0, .int .u8 0, .int .u8 0, .int .u8 0, .int .u8 0, .int .u8 0, .int .u8 0, .int .u8 2])
    have HO := Lib.hid (show (#[.int .u8 0, .int .u8 0, .int .u8 0, .int .u8 0, .int .u8 0, .int .u8 0, .int .u8 0, .int .u8 0, .int .u8 0, .int .u8 0, .int .u8 0, .int .u8 0, .int .u8 0, .int .u8 0, .int .u8 0, .int .u8 0, .int .u8 0, .int .u8 0, .int .u8 0, .int .u8 2] : Array Value).all (·.oneCell') = true by kernel_rfl)
    have HL := Lib.hid LD
    have HRR := Lib.hid hr1
    have HFF := Lib.hid hF
    clear LD hF hr ht hr1 ht1 q1 
    go_wp2_with (first | (refine wpList_load_known rfl _ (.tmp 3) rfl _ rfl _ HL.out ?_) | (refine wpList_store_row rfl _ (.tmp 2) (.tmp 13) rfl _ _ rfl rfl _ _ HRR.out infoAd rfl HO.out ?_))
    try simp only [Exit.inBlock, Exit.then]
    refine bodyPost_ret (results_cell_row rfl _ _ W.heap.size 26 _ (0, 0) _ rfl HFF.out Try.underlying26 rfl infoAd) rfl ?_
    exact ⟨by rw [adrN_cells2], qF.out⟩
  · have hr1 := hr.other (p := ⟨W.heap.size + 1, 19, none⟩) (by simp) (.int .u8 3)
    have ht1 := ht.set 19 (.int .u8 3)
    have q1 := Q1.out.setCell (p := ⟨W.heap.size + 1, 19, none⟩) (by simp) (.int .u8 3)
    obtain ⟨U, hU⟩ : ∃ U, w1.setCell ⟨W.heap.size + 1, 19, none⟩ (.int .u8 3) = U := ⟨_, rfl⟩
    rw [hU] at hr1 ht1 q1
    replace ht1 : Has U (W.heap.size + 1) 26 #[.int .u8 0, .int .u8 0, .int .u8 0, .int .u8 0, .int .u8 0, .int .u8 0, .int .u8 0, .int .u8 0, .int .u8 0, .int .u8 0, .int .u8 0, .int .u8 0, .int .u8 0, .int .u8 0, .int .u8 0, .int .u8 0, .int .u8 0, .int .u8 0, .int .u8 0, .int .u8 3] := ht1
    have LD := run_loadVar_row (P := Try.prog) U (W.heap.size + 1) 26 26 _ (0, 0) _ ht1 Try.underlying26 rfl infoAd
    have hF : Has (U.setRow W.heap.size #[.int .u8 0, .int .u8 0, .int .u8 0, .int .u8 0, .int .u8 0, .int .u8 0, .int .u8 0, .int .u8 0, .int .u8 0, .int .u8 0, .int .u8 0, .int .u8 0, .int .u8 0, .int .u8 0, .int .u8 0, .int .u8 0, .int .u8 0, .int .u8 0, .int .u8 0, .int .u8 3]) W.heap.size 26 #[.int .u8 0, .int .u8 0, .int .u8 0, .int .u8 0, .int .u8 0, .int .u8 0, .int .u8 0, .int .u8 0, .int .u8 0, .int .u8 0, .int .u8 0, .int .u8 0, .int .u8 0, .int .u8 0, .int .u8 0, .int .u8 0, .int .u8 0, .int .u8 0, .int .u8 0, .int .u8 3] := setRow_heap _ _ _ _ _ _ hr1
    have qF := Lib.hid (below_rowK q1 (g := W.heap.size) (Nat.le_refl _) #[.int .u8 0, .int .u8 0, .int .u8 0, .int .u8 0, .int .u8 0, .int .u8 0, .int .u8 0, .int .u8 0, .int .u8 0, .int .u8 0, .int .u8 0, .int .u8 0, .int .u8 0, .int .u8 0, .int .u8 0, .int .u8 0, .int .u8 0, .int .u8 0, .int .u8 0, .int .u8 3])
    have HO := Lib.hid (show (#[.int .u8 0, .int .u8 0, .int .u8 0, .int .u8 0, .int .u8 0, .int .u8 0, .int .u8 0, .int .u8 0, .int .u8 0, .int .u8 0, .int .u8 0, .int .u8 0, .int .u8 0, .int .u8 0, .int .u8 0, .int .u8 0, .int .u8 0, .int .u8 0, .int .u8 0, .int .u8 3] : Array Value).all (·.oneCell') = true by kernel_rfl)
    have HL := Lib.hid LD
    have HRR := Lib.hid hr1
    have HFF := Lib.hid hF
    clear LD hF hr ht hr1 ht1 q1 
    go_wp2_with (first | (refine wpList_load_known rfl _ (.tmp 3) rfl _ rfl _ HL.out ?_) | (refine wpList_store_row rfl _ (.tmp 2) (.tmp 13) rfl _ _ rfl rfl _ _ HRR.out infoAd rfl HO.out ?_))
    try simp only [Exit.inBlock, Exit.then]
    refine bodyPost_ret (results_cell_row rfl _ _ W.heap.size 26 _ (0, 0) _ rfl HFF.out Try.underlying26 rfl infoAd) rfl ?_
    exact ⟨by rw [adrN_cells3], qF.out⟩
  · have hr1 := hr.other (p := ⟨W.heap.size + 1, 19, none⟩) (by simp) (.int .u8 4)
    have ht1 := ht.set 19 (.int .u8 4)
    have q1 := Q1.out.setCell (p := ⟨W.heap.size + 1, 19, none⟩) (by simp) (.int .u8 4)
    obtain ⟨U, hU⟩ : ∃ U, w1.setCell ⟨W.heap.size + 1, 19, none⟩ (.int .u8 4) = U := ⟨_, rfl⟩
    rw [hU] at hr1 ht1 q1
    replace ht1 : Has U (W.heap.size + 1) 26 #[.int .u8 0, .int .u8 0, .int .u8 0, .int .u8 0, .int .u8 0, .int .u8 0, .int .u8 0, .int .u8 0, .int .u8 0, .int .u8 0, .int .u8 0, .int .u8 0, .int .u8 0, .int .u8 0, .int .u8 0, .int .u8 0, .int .u8 0, .int .u8 0, .int .u8 0, .int .u8 4] := ht1
    have LD := run_loadVar_row (P := Try.prog) U (W.heap.size + 1) 26 26 _ (0, 0) _ ht1 Try.underlying26 rfl infoAd
    have hF : Has (U.setRow W.heap.size #[.int .u8 0, .int .u8 0, .int .u8 0, .int .u8 0, .int .u8 0, .int .u8 0, .int .u8 0, .int .u8 0, .int .u8 0, .int .u8 0, .int .u8 0, .int .u8 0, .int .u8 0, .int .u8 0, .int .u8 0, .int .u8 0, .int .u8 0, .int .u8 0, .int .u8 0, .int .u8 4]) W.heap.size 26 #[.int .u8 0, .int .u8 0, .int .u8 0, .int .u8 0, .int .u8 0, .int .u8 0, .int .u8 0, .int .u8 0, .int .u8 0, .int .u8 0, .int .u8 0, .int .u8 0, .int .u8 0, .int .u8 0, .int .u8 0, .int .u8 0, .int .u8 0, .int .u8 0, .int .u8 0, .int .u8 4] := setRow_heap _ _ _ _ _ _ hr1
    have qF := Lib.hid (below_rowK q1 (g := W.heap.size) (Nat.le_refl _) #[.int .u8 0, .int .u8 0, .int .u8 0, .int .u8 0, .int .u8 0, .int .u8 0, .int .u8 0, .int .u8 0, .int .u8 0, .int .u8 0, .int .u8 0, .int .u8 0, .int .u8 0, .int .u8 0, .int .u8 0, .int .u8 0, .int .u8 0, .int .u8 0, .int .u8 0, .int .u8 4])
    have HO := Lib.hid (show (#[.int .u8 0, .int .u8 0, .int .u8 0, .int .u8 0, .int .u8 0, .int .u8 0, .int .u8 0, .int .u8 0, .int .u8 0, .int .u8 0, .int .u8 0, .int .u8 0, .int .u8 0, .int .u8 0, .int .u8 0, .int .u8 0, .int .u8 0, .int .u8 0, .int .u8 0, .int .u8 4] : Array Value).all (·.oneCell') = true by kernel_rfl)
    have HL := Lib.hid LD
    have HRR := Lib.hid hr1
    have HFF := Lib.hid hF
    clear LD hF hr ht hr1 ht1 q1 
    go_wp2_with (first | (refine wpList_load_known rfl _ (.tmp 3) rfl _ rfl _ HL.out ?_) | (refine wpList_store_row rfl _ (.tmp 2) (.tmp 13) rfl _ _ rfl rfl _ _ HRR.out infoAd rfl HO.out ?_))
    try simp only [Exit.inBlock, Exit.then]
    refine bodyPost_ret (results_cell_row rfl _ _ W.heap.size 26 _ (0, 0) _ rfl HFF.out Try.underlying26 rfl infoAd) rfl ?_
    exact ⟨by rw [adrN_cells4], qF.out⟩
  · have hr1 := hr.other (p := ⟨W.heap.size + 1, 19, none⟩) (by simp) (.int .u8 5)
    have ht1 := ht.set 19 (.int .u8 5)
    have q1 := Q1.out.setCell (p := ⟨W.heap.size + 1, 19, none⟩) (by simp) (.int .u8 5)
    obtain ⟨U, hU⟩ : ∃ U, w1.setCell ⟨W.heap.size + 1, 19, none⟩ (.int .u8 5) = U := ⟨_, rfl⟩
    rw [hU] at hr1 ht1 q1
    replace ht1 : Has U (W.heap.size + 1) 26 #[.int .u8 0, .int .u8 0, .int .u8 0, .int .u8 0, .int .u8 0, .int .u8 0, .int .u8 0, .int .u8 0, .int .u8 0, .int .u8 0, .int .u8 0, .int .u8 0, .int .u8 0, .int .u8 0, .int .u8 0, .int .u8 0, .int .u8 0, .int .u8 0, .int .u8 0, .int .u8 5] := ht1
    have LD := run_loadVar_row (P := Try.prog) U (W.heap.size + 1) 26 26 _ (0, 0) _ ht1 Try.underlying26 rfl infoAd
    have hF : Has (U.setRow W.heap.size #[.int .u8 0, .int .u8 0, .int .u8 0, .int .u8 0, .int .u8 0, .int .u8 0, .int .u8 0, .int .u8 0, .int .u8 0, .int .u8 0, .int .u8 0, .int .u8 0, .int .u8 0, .int .u8 0, .int .u8 0, .int .u8 0, .int .u8 0, .int .u8 0, .int .u8 0, .int .u8 5]) W.heap.size 26 #[.int .u8 0, .int .u8 0, .int .u8 0, .int .u8 0, .int .u8 0, .int .u8 0, .int .u8 0, .int .u8 0, .int .u8 0, .int .u8 0, .int .u8 0, .int .u8 0, .int .u8 0, .int .u8 0, .int .u8 0, .int .u8 0, .int .u8 0, .int .u8 0, .int .u8 0, .int .u8 5] := setRow_heap _ _ _ _ _ _ hr1
    have qF := Lib.hid (below_rowK q1 (g := W.heap.size) (Nat.le_refl _) #[.int .u8 0, .int .u8 0, .int .u8 0, .int .u8 0, .int .u8 0, .int .u8 0, .int .u8 0, .int .u8 0, .int .u8 0, .int .u8 0, .int .u8 0, .int .u8 0, .int .u8 0, .int .u8 0, .int .u8 0, .int .u8 0, .int .u8 0, .int .u8 0, .int .u8 0, .int .u8 5])
    have HO := Lib.hid (show (#[.int .u8 0, .int .u8 0, .int .u8 0, .int .u8 0, .int .u8 0, .int .u8 0, .int .u8 0, .int .u8 0, .int .u8 0, .int .u8 0, .int .u8 0, .int .u8 0, .int .u8 0, .int .u8 0, .int .u8 0, .int .u8 0, .int .u8 0, .int .u8 0, .int .u8 0, .int .u8 5] : Array Value).all (·.oneCell') = true by kernel_rfl)
    have HL := Lib.hid LD
    have HRR := Lib.hid hr1
    have HFF := Lib.hid hF
    clear LD hF hr ht hr1 ht1 q1 
    go_wp2_with (first | (refine wpList_load_known rfl _ (.tmp 3) rfl _ rfl _ HL.out ?_) | (refine wpList_store_row rfl _ (.tmp 2) (.tmp 13) rfl _ _ rfl rfl _ _ HRR.out infoAd rfl HO.out ?_))
    try simp only [Exit.inBlock, Exit.then]
    refine bodyPost_ret (results_cell_row rfl _ _ W.heap.size 26 _ (0, 0) _ rfl HFF.out Try.underlying26 rfl infoAd) rfl ?_
    exact ⟨by rw [adrN_cells5], qF.out⟩
  · have hr1 := hr.other (p := ⟨W.heap.size + 1, 19, none⟩) (by simp) (.int .u8 6)
    have ht1 := ht.set 19 (.int .u8 6)
    have q1 := Q1.out.setCell (p := ⟨W.heap.size + 1, 19, none⟩) (by simp) (.int .u8 6)
    have hr2 := hr1.other (p := ⟨W.heap.size + 1, 0, none⟩) (by simp) (.int .u8 1)
    have ht2 := ht1.set 0 (.int .u8 1)
    have q2 := q1.setCell (p := ⟨W.heap.size + 1, 0, none⟩) (by simp) (.int .u8 1)
    obtain ⟨U, hU⟩ : ∃ U, (w1.setCell ⟨W.heap.size + 1, 19, none⟩ (.int .u8 6)).setCell ⟨W.heap.size + 1, 0, none⟩ (.int .u8 1) = U := ⟨_, rfl⟩
    rw [hU] at hr2 ht2 q2
    replace ht2 : Has U (W.heap.size + 1) 26 #[.int .u8 1, .int .u8 0, .int .u8 0, .int .u8 0, .int .u8 0, .int .u8 0, .int .u8 0, .int .u8 0, .int .u8 0, .int .u8 0, .int .u8 0, .int .u8 0, .int .u8 0, .int .u8 0, .int .u8 0, .int .u8 0, .int .u8 0, .int .u8 0, .int .u8 0, .int .u8 6] := ht2
    have LD := run_loadVar_row (P := Try.prog) U (W.heap.size + 1) 26 26 _ (0, 0) _ ht2 Try.underlying26 rfl infoAd
    have hF : Has (U.setRow W.heap.size #[.int .u8 1, .int .u8 0, .int .u8 0, .int .u8 0, .int .u8 0, .int .u8 0, .int .u8 0, .int .u8 0, .int .u8 0, .int .u8 0, .int .u8 0, .int .u8 0, .int .u8 0, .int .u8 0, .int .u8 0, .int .u8 0, .int .u8 0, .int .u8 0, .int .u8 0, .int .u8 6]) W.heap.size 26 #[.int .u8 1, .int .u8 0, .int .u8 0, .int .u8 0, .int .u8 0, .int .u8 0, .int .u8 0, .int .u8 0, .int .u8 0, .int .u8 0, .int .u8 0, .int .u8 0, .int .u8 0, .int .u8 0, .int .u8 0, .int .u8 0, .int .u8 0, .int .u8 0, .int .u8 0, .int .u8 6] := setRow_heap _ _ _ _ _ _ hr2
    have qF := Lib.hid (below_rowK q2 (g := W.heap.size) (Nat.le_refl _) #[.int .u8 1, .int .u8 0, .int .u8 0, .int .u8 0, .int .u8 0, .int .u8 0, .int .u8 0, .int .u8 0, .int .u8 0, .int .u8 0, .int .u8 0, .int .u8 0, .int .u8 0, .int .u8 0, .int .u8 0, .int .u8 0, .int .u8 0, .int .u8 0, .int .u8 0, .int .u8 6])
    have HO := Lib.hid (show (#[.int .u8 1, .int .u8 0, .int .u8 0, .int .u8 0, .int .u8 0, .int .u8 0, .int .u8 0, .int .u8 0, .int .u8 0, .int .u8 0, .int .u8 0, .int .u8 0, .int .u8 0, .int .u8 0, .int .u8 0, .int .u8 0, .int .u8 0, .int .u8 0, .int .u8 0, .int .u8 6] : Array Value).all (·.oneCell') = true by kernel_rfl)
    have HL := Lib.hid LD
    have HRR := Lib.hid hr2
    have HFF := Lib.hid hF
    clear LD hF hr ht hr1 ht1 q1 hr2 ht2 q2
    go_wp2_with (first | (refine wpList_load_known rfl _ (.tmp 3) rfl _ rfl _ HL.out ?_) | (refine wpList_store_row rfl _ (.tmp 2) (.tmp 13) rfl _ _ rfl rfl _ _ HRR.out infoAd rfl HO.out ?_))
    try simp only [Exit.inBlock, Exit.then]
    refine bodyPost_ret (results_cell_row rfl _ _ W.heap.size 26 _ (0, 0) _ rfl HFF.out Try.underlying26 rfl infoAd) rfl ?_
    exact ⟨by rw [adrN_cells6], qF.out⟩
  · have hr1 := hr.other (p := ⟨W.heap.size + 1, 19, none⟩) (by simp) (.int .u8 7)
    have ht1 := ht.set 19 (.int .u8 7)
    have q1 := Q1.out.setCell (p := ⟨W.heap.size + 1, 19, none⟩) (by simp) (.int .u8 7)
    have hr2 := hr1.other (p := ⟨W.heap.size + 1, 0, none⟩) (by simp) (.int .u8 1)
    have ht2 := ht1.set 0 (.int .u8 1)
    have q2 := q1.setCell (p := ⟨W.heap.size + 1, 0, none⟩) (by simp) (.int .u8 1)
    obtain ⟨U, hU⟩ : ∃ U, (w1.setCell ⟨W.heap.size + 1, 19, none⟩ (.int .u8 7)).setCell ⟨W.heap.size + 1, 0, none⟩ (.int .u8 1) = U := ⟨_, rfl⟩
    rw [hU] at hr2 ht2 q2
    replace ht2 : Has U (W.heap.size + 1) 26 #[.int .u8 1, .int .u8 0, .int .u8 0, .int .u8 0, .int .u8 0, .int .u8 0, .int .u8 0, .int .u8 0, .int .u8 0, .int .u8 0, .int .u8 0, .int .u8 0, .int .u8 0, .int .u8 0, .int .u8 0, .int .u8 0, .int .u8 0, .int .u8 0, .int .u8 0, .int .u8 7] := ht2
    have LD := run_loadVar_row (P := Try.prog) U (W.heap.size + 1) 26 26 _ (0, 0) _ ht2 Try.underlying26 rfl infoAd
    have hF : Has (U.setRow W.heap.size #[.int .u8 1, .int .u8 0, .int .u8 0, .int .u8 0, .int .u8 0, .int .u8 0, .int .u8 0, .int .u8 0, .int .u8 0, .int .u8 0, .int .u8 0, .int .u8 0, .int .u8 0, .int .u8 0, .int .u8 0, .int .u8 0, .int .u8 0, .int .u8 0, .int .u8 0, .int .u8 7]) W.heap.size 26 #[.int .u8 1, .int .u8 0, .int .u8 0, .int .u8 0, .int .u8 0, .int .u8 0, .int .u8 0, .int .u8 0, .int .u8 0, .int .u8 0, .int .u8 0, .int .u8 0, .int .u8 0, .int .u8 0, .int .u8 0, .int .u8 0, .int .u8 0, .int .u8 0, .int .u8 0, .int .u8 7] := setRow_heap _ _ _ _ _ _ hr2
    have qF := Lib.hid (below_rowK q2 (g := W.heap.size) (Nat.le_refl _) #[.int .u8 1, .int .u8 0, .int .u8 0, .int .u8 0, .int .u8 0, .int .u8 0, .int .u8 0, .int .u8 0, .int .u8 0, .int .u8 0, .int .u8 0, .int .u8 0, .int .u8 0, .int .u8 0, .int .u8 0, .int .u8 0, .int .u8 0, .int .u8 0, .int .u8 0, .int .u8 7])
    have HO := Lib.hid (show (#[.int .u8 1, .int .u8 0, .int .u8 0, .int .u8 0, .int .u8 0, .int .u8 0, .int .u8 0, .int .u8 0, .int .u8 0, .int .u8 0, .int .u8 0, .int .u8 0, .int .u8 0, .int .u8 0, .int .u8 0, .int .u8 0, .int .u8 0, .int .u8 0, .int .u8 0, .int .u8 7] : Array Value).all (·.oneCell') = true by kernel_rfl)
    have HL := Lib.hid LD
    have HRR := Lib.hid hr2
    have HFF := Lib.hid hF
    clear LD hF hr ht hr1 ht1 q1 hr2 ht2 q2
    go_wp2_with (first | (refine wpList_load_known rfl _ (.tmp 3) rfl _ rfl _ HL.out ?_) | (refine wpList_store_row rfl _ (.tmp 2) (.tmp 13) rfl _ _ rfl rfl _ _ HRR.out infoAd rfl HO.out ?_))
    try simp only [Exit.inBlock, Exit.then]
    refine bodyPost_ret (results_cell_row rfl _ _ W.heap.size 26 _ (0, 0) _ rfl HFF.out Try.underlying26 rfl infoAd) rfl ?_
    exact ⟨by rw [adrN_cells7], qF.out⟩
  · have hr1 := hr.other (p := ⟨W.heap.size + 1, 19, none⟩) (by simp) (.int .u8 8)
    have ht1 := ht.set 19 (.int .u8 8)
    have q1 := Q1.out.setCell (p := ⟨W.heap.size + 1, 19, none⟩) (by simp) (.int .u8 8)
    have hr2 := hr1.other (p := ⟨W.heap.size + 1, 0, none⟩) (by simp) (.int .u8 1)
    have ht2 := ht1.set 0 (.int .u8 1)
    have q2 := q1.setCell (p := ⟨W.heap.size + 1, 0, none⟩) (by simp) (.int .u8 1)
    obtain ⟨U, hU⟩ : ∃ U, (w1.setCell ⟨W.heap.size + 1, 19, none⟩ (.int .u8 8)).setCell ⟨W.heap.size + 1, 0, none⟩ (.int .u8 1) = U := ⟨_, rfl⟩
    rw [hU] at hr2 ht2 q2
    replace ht2 : Has U (W.heap.size + 1) 26 #[.int .u8 1, .int .u8 0, .int .u8 0, .int .u8 0, .int .u8 0, .int .u8 0, .int .u8 0, .int .u8 0, .int .u8 0, .int .u8 0, .int .u8 0, .int .u8 0, .int .u8 0, .int .u8 0, .int .u8 0, .int .u8 0, .int .u8 0, .int .u8 0, .int .u8 0, .int .u8 8] := ht2
    have LD := run_loadVar_row (P := Try.prog) U (W.heap.size + 1) 26 26 _ (0, 0) _ ht2 Try.underlying26 rfl infoAd
    have hF : Has (U.setRow W.heap.size #[.int .u8 1, .int .u8 0, .int .u8 0, .int .u8 0, .int .u8 0, .int .u8 0, .int .u8 0, .int .u8 0, .int .u8 0, .int .u8 0, .int .u8 0, .int .u8 0, .int .u8 0, .int .u8 0, .int .u8 0, .int .u8 0, .int .u8 0, .int .u8 0, .int .u8 0, .int .u8 8]) W.heap.size 26 #[.int .u8 1, .int .u8 0, .int .u8 0, .int .u8 0, .int .u8 0, .int .u8 0, .int .u8 0, .int .u8 0, .int .u8 0, .int .u8 0, .int .u8 0, .int .u8 0, .int .u8 0, .int .u8 0, .int .u8 0, .int .u8 0, .int .u8 0, .int .u8 0, .int .u8 0, .int .u8 8] := setRow_heap _ _ _ _ _ _ hr2
    have qF := Lib.hid (below_rowK q2 (g := W.heap.size) (Nat.le_refl _) #[.int .u8 1, .int .u8 0, .int .u8 0, .int .u8 0, .int .u8 0, .int .u8 0, .int .u8 0, .int .u8 0, .int .u8 0, .int .u8 0, .int .u8 0, .int .u8 0, .int .u8 0, .int .u8 0, .int .u8 0, .int .u8 0, .int .u8 0, .int .u8 0, .int .u8 0, .int .u8 8])
    have HO := Lib.hid (show (#[.int .u8 1, .int .u8 0, .int .u8 0, .int .u8 0, .int .u8 0, .int .u8 0, .int .u8 0, .int .u8 0, .int .u8 0, .int .u8 0, .int .u8 0, .int .u8 0, .int .u8 0, .int .u8 0, .int .u8 0, .int .u8 0, .int .u8 0, .int .u8 0, .int .u8 0, .int .u8 8] : Array Value).all (·.oneCell') = true by kernel_rfl)
    have HL := Lib.hid LD
    have HRR := Lib.hid hr2
    have HFF := Lib.hid hF
    clear LD hF hr ht hr1 ht1 q1 hr2 ht2 q2
    go_wp2_with (first | (refine wpList_load_known rfl _ (.tmp 3) rfl _ rfl _ HL.out ?_) | (refine wpList_store_row rfl _ (.tmp 2) (.tmp 13) rfl _ _ rfl rfl _ _ HRR.out infoAd rfl HO.out ?_))
    try simp only [Exit.inBlock, Exit.then]
    refine bodyPost_ret (results_cell_row rfl _ _ W.heap.size 26 _ (0, 0) _ rfl HFF.out Try.underlying26 rfl infoAd) rfl ?_
    exact ⟨by rw [adrN_cells8], qF.out⟩
end Go.Proofs.Ytbkgipggblphlaa

namespace Go.Proofs.Ytbkgipggblphlaa
open Go Go.RowKit
attribute [local go_sem] Oper.semAt_some Grows wide_fn

theorem built_key0 (x0 x1 x2 x3 x4 x5 x6 x7 x8 x9 x10 x11 x12 x13 x14 x15 x16 x17 x18 x19 b y0 y1 y2 y3 : Value) : Try.prog.built 31 [(0, .agg #[x0, x1, x2, x3, x4, x5, x6, x7, x8, x9, x10, x11, x12, x13, x14, x15, x16, x17, x18, x19]), (1, .bool true), (2, .agg #[y0, y1, y2, y3])] = some #[x0, x1, x2, x3, x4, x5, x6, x7, x8, x9, x10, x11, x12, x13, x14, x15, x16, x17, x18, x19, .bool true, y0, y1, y2, y3] := by kernel_rfl
theorem built_key (n m : Nat) : Try.prog.built 31 [(0, .agg (adC n)), (1, .bool true), (2, wv m)] = some (kyC ⟨n, true, m⟩) := by
  have h := built_key0 (.int .u8 ((adB n 0 : Nat) : Int)) (.int .u8 ((adB n 1 : Nat) : Int)) (.int .u8 ((adB n 2 : Nat) : Int)) (.int .u8 ((adB n 3 : Nat) : Int)) (.int .u8 ((adB n 4 : Nat) : Int)) (.int .u8 ((adB n 5 : Nat) : Int)) (.int .u8 ((adB n 6 : Nat) : Int)) (.int .u8 ((adB n 7 : Nat) : Int)) (.int .u8 ((adB n 8 : Nat) : Int)) (.int .u8 ((adB n 9 : Nat) : Int)) (.int .u8 ((adB n 10 : Nat) : Int)) (.int .u8 ((adB n 11 : Nat) : Int)) (.int .u8 ((adB n 12 : Nat) : Int)) (.int .u8 ((adB n 13 : Nat) : Int)) (.int .u8 ((adB n 14 : Nat) : Int)) (.int .u8 ((adB n 15 : Nat) : Int)) (.int .u8 ((adB n 16 : Nat) : Int)) (.int .u8 ((adB n 17 : Nat) : Int)) (.int .u8 ((adB n 18 : Nat) : Int)) (.int .u8 ((adB n 19 : Nat) : Int)) (.bool true) (.int .u64 (lim m 0)) (.int .u64 (lim m 1)) (.int .u64 (lim m 2)) (.int .u64 (lim m 3))
  have e1 : adC n = #[.int .u8 ((adB n 0 : Nat) : Int), .int .u8 ((adB n 1 : Nat) : Int), .int .u8 ((adB n 2 : Nat) : Int), .int .u8 ((adB n 3 : Nat) : Int), .int .u8 ((adB n 4 : Nat) : Int), .int .u8 ((adB n 5 : Nat) : Int), .int .u8 ((adB n 6 : Nat) : Int), .int .u8 ((adB n 7 : Nat) : Int), .int .u8 ((adB n 8 : Nat) : Int), .int .u8 ((adB n 9 : Nat) : Int), .int .u8 ((adB n 10 : Nat) : Int), .int .u8 ((adB n 11 : Nat) : Int), .int .u8 ((adB n 12 : Nat) : Int), .int .u8 ((adB n 13 : Nat) : Int), .int .u8 ((adB n 14 : Nat) : Int), .int .u8 ((adB n 15 : Nat) : Int), .int .u8 ((adB n 16 : Nat) : Int), .int .u8 ((adB n 17 : Nat) : Int), .int .u8 ((adB n 18 : Nat) : Int), .int .u8 ((adB n 19 : Nat) : Int)] := rfl
  have e2 : kyC ⟨n, true, m⟩ = #[.int .u8 ((adB n 0 : Nat) : Int), .int .u8 ((adB n 1 : Nat) : Int), .int .u8 ((adB n 2 : Nat) : Int), .int .u8 ((adB n 3 : Nat) : Int), .int .u8 ((adB n 4 : Nat) : Int), .int .u8 ((adB n 5 : Nat) : Int), .int .u8 ((adB n 6 : Nat) : Int), .int .u8 ((adB n 7 : Nat) : Int), .int .u8 ((adB n 8 : Nat) : Int), .int .u8 ((adB n 9 : Nat) : Int), .int .u8 ((adB n 10 : Nat) : Int), .int .u8 ((adB n 11 : Nat) : Int), .int .u8 ((adB n 12 : Nat) : Int), .int .u8 ((adB n 13 : Nat) : Int), .int .u8 ((adB n 14 : Nat) : Int), .int .u8 ((adB n 15 : Nat) : Int), .int .u8 ((adB n 16 : Nat) : Int), .int .u8 ((adB n 17 : Nat) : Int), .int .u8 ((adB n 18 : Nat) : Int), .int .u8 ((adB n 19 : Nat) : Int), .bool true, .int .u64 (lim m 0), .int .u64 (lim m 1), .int .u64 (lim m 2), .int .u64 (lim m 3)] := rfl
  rw [e1, e2]
  exact h
theorem wpList_build_key {ops : Array Oper} {rest : List Oper} {o : Oper} {a : Act} {w : World} {Q : Exit → Act → World → Prop} (hw : Region.wanted o (yielded ops a.tmps) = true) (y z : Operand) (ho : o.op = .build 31 #[(0, y), (1, .const (.bool true)), (2, z)]) (ad cs : Array Value) (v : Value) (hb : Try.prog.built 31 [(0, .agg ad), (1, .bool true), (2, v)] = some cs) (hy : a.eval y = .agg ad) (hz : a.eval z = v)
    (h : wpList Try.prog ops Q rest (a.put o.dst (.agg cs)) w) : wpList Try.prog ops Q (o :: rest) a w := by
  refine wpList_step fun K hK => ?_
  rw [if_pos hw]
  have e : Try.prog.built 31 (#[((0 : Nat), y), (1, .const (.bool true)), (2, z)].map fun (i, x) => (i, a.eval x)).toList = some cs := by
    simp only [List.map_toArray, List.map_cons, List.map_nil, hy, hz]
    exact hb
  refine wp_build 31 #[(0, y), (1, .const (.bool true)), (2, z)] ho (by rw [e]; rfl) (hK _ _ ?_)
  rw [e]
  exact h
/-- The key that two numbers speak of. -/
def keyN (c d : Int) : Ky := if pickN d 5 = 0 then ⟨adrN (pickN c 9), false, 0⟩ else ⟨adrN (pickN c 9), true, (pickN d 5 - 1).toNat⟩
theorem keyN_ok (c d : Int) : KyOk (keyN c d) := by
  have h := pickN_range c 9 (by decide)
  have g := pickN_range d 5 (by decide)
  unfold keyN
  split
  · exact ⟨adrN_lt h.2, by show W256 0; unfold W256; omega⟩
  · exact ⟨adrN_lt h.2, by show W256 ((pickN d 5 - 1).toNat); unfold W256; omega⟩
set_option maxRecDepth 100000 in
set_option maxHeartbeats 4000000 in
theorem key10_any (W : World) (c d : Int) (hc : I64 c) (hd : I64 d) : Calls Try.prog 23 #[.int .i64 c, .int .i64 d] W fun e w' => e = .returned (.agg (kyC (keyN c d))) ∧ Below W.heap.size W w' := by
  have PK := Lib.hid (pick10_ret d hd 5 (by decide) (by decide))
  have AD := Lib.hid (fun X => addr8_any X c hc)
  obtain ⟨j0, j1⟩ := pickN_range d 5 (by decide)
  have hkn : ∀ j, pickN d 5 = j → keyN c d = if j = 0 then ⟨adrN (pickN c 9), false, 0⟩ else ⟨adrN (pickN c 9), true, (j - 1).toNat⟩ := fun j h => by unfold keyN; rw [h]
  obtain ⟨j, hj⟩ : ∃ j, pickN d 5 = j := ⟨_, rfl⟩
  replace hkn := Lib.hid (hkn j hj)
  rw [hj] at PK j0 j1
  clear hj
  obtain ⟨k, hk⟩ : ∃ k, keyN c d = k := ⟨_, rfl⟩
  rw [hk] at hkn ⊢
  clear hk
  generalize adrN (pickN c 9) = n at *
  have B1 := Lib.hid (built_at n)
  have B2 := Lib.hid (fun m => built_key n m)
  have hb := Has.new W 31 #[.int .u8 0, .int .u8 0, .int .u8 0, .int .u8 0, .int .u8 0, .int .u8 0, .int .u8 0, .int .u8 0, .int .u8 0, .int .u8 0, .int .u8 0, .int .u8 0, .int .u8 0, .int .u8 0, .int .u8 0, .int .u8 0, .int .u8 0, .int .u8 0, .int .u8 0, .int .u8 0, .bool false, .int .u64 0, .int .u64 0, .int .u64 0, .int .u64 0]
  have q0 := (Below.refl W.heap.size W).alloc (Nat.le_refl _) (.cells #[.int .u8 0, .int .u8 0, .int .u8 0, .int .u8 0, .int .u8 0, .int .u8 0, .int .u8 0, .int .u8 0, .int .u8 0, .int .u8 0, .int .u8 0, .int .u8 0, .int .u8 0, .int .u8 0, .int .u8 0, .int .u8 0, .int .u8 0, .int .u8 0, .int .u8 0, .int .u8 0, .bool false, .int .u64 0, .int .u64 0, .int .u64 0, .int .u64 0] 31)
  obtain ⟨V, hV⟩ : ∃ V, W.alloc (.cells #[.int .u8 0, .int .u8 0, .int .u8 0, .int .u8 0, .int .u8 0, .int .u8 0, .int .u8 0, .int .u8 0, .int .u8 0, .int .u8 0, .int .u8 0, .int .u8 0, .int .u8 0, .int .u8 0, .int .u8 0, .int .u8 0, .int .u8 0, .int .u8 0, .int .u8 0, .int .u8 0, .bool false, .int .u64 0, .int .u64 0, .int .u64 0, .int .u64 0] 31) = V := ⟨_, rfl⟩
  rw [hV] at hb q0
  have HB := Lib.hid hb
  have Q := Lib.hid q0
  clear hb q0
  go_enter Try.func23, Try.ntmps23
  go_wp2_with fail
  clear hV
  refine (PK.out _).mono ?_
  rintro _ w1 ⟨rfl, hb1⟩
  have Q1 := Lib.hid (Q.out.trans (hb1.mono Q.out.size))
  have H1 := Lib.hid (HB.out.later hb1)
  clear hb1 HB PK Q
  have hjj : j = 0 ∨ j = 1 ∨ j = 2 ∨ j = 3 ∨ j = 4 := by omega
  clear j0 j1
  rcases hjj with rfl | rfl | rfl | rfl | rfl
  · go_wp2_with fail
    refine (AD.out _).mono ?_
    rintro _ w2 ⟨rfl, hb2⟩
    have Q2 := Lib.hid (Q1.out.trans (hb2.mono Q1.out.size))
    have H2 := Lib.hid (H1.out.later hb2)
    clear hb2
    have hF : Has (w2.setRow W.heap.size (kyC ⟨n, false, 0⟩)) W.heap.size 31 (kyC ⟨n, false, 0⟩) := setRow_heap _ _ _ _ _ _ H2.out
    have HF := Lib.hid hF
    have qF := Lib.hid (below_rowK Q2.out (g := W.heap.size) (Nat.le_refl _) (kyC ⟨n, false, 0⟩))
    have hi : (Try.prog.info? 31).map (·.size) = some (kyC ⟨n, false, 0⟩).size := by rw [kyC_size]; exact infoKy
    have HI := Lib.hid hi
    have HS := Lib.hid (show (#[.int .u8 0, .int .u8 0, .int .u8 0, .int .u8 0, .int .u8 0, .int .u8 0, .int .u8 0, .int .u8 0, .int .u8 0, .int .u8 0, .int .u8 0, .int .u8 0, .int .u8 0, .int .u8 0, .int .u8 0, .int .u8 0, .int .u8 0, .int .u8 0, .int .u8 0, .int .u8 0, .bool false, .int .u64 0, .int .u64 0, .int .u64 0, .int .u64 0] : Array Value).size = (kyC ⟨n, false, 0⟩).size by rw [kyC_size]; rfl)
    have HO := Lib.hid (kyC_one ⟨n, false, 0⟩)
    clear hF hi
    go_wp2_with (first | (refine wpList_build_at rfl (.tmp 11) rfl _ _ B1.out rfl ?_) | (refine wpList_store_row rfl _ (.tmp 4) (.tmp 12) rfl _ _ rfl rfl _ _ H2.out HI.out HS.out HO.out ?_))
    try simp only [Exit.inBlock, Exit.then]
    refine bodyPost_ret (results_cell_row rfl _ _ W.heap.size 31 _ (0, 0) _ rfl HF.out Try.underlying31 rfl HI.out) rfl ?_
    exact ⟨by rw [hkn.out]; rfl, qF.out⟩
  · have OF := Lib.hid (fun X => refOf_ret 0 (by unfold I64; omega) X)
    have eo : ofN 0 = 0 := by decide
    rw [eo] at OF
    go_wp2_with fail
    refine (AD.out _).mono ?_
    rintro _ w2 ⟨rfl, hb2⟩
    have Q2 := Lib.hid (Q1.out.trans (hb2.mono Q1.out.size))
    have H2 := Lib.hid (H1.out.later hb2)
    clear hb2
    go_wp2_with fail
    refine (OF.out _).mono ?_
    rintro _ w3 ⟨rfl, hb3⟩
    have Q3 := Lib.hid (Q2.out.trans (hb3.mono Q2.out.size))
    have H3 := Lib.hid (H2.out.later hb3)
    clear hb3
    have hF : Has (w3.setRow W.heap.size (kyC ⟨n, true, 0⟩)) W.heap.size 31 (kyC ⟨n, true, 0⟩) := setRow_heap _ _ _ _ _ _ H3.out
    have HF := Lib.hid hF
    have qF := Lib.hid (below_rowK Q3.out (g := W.heap.size) (Nat.le_refl _) (kyC ⟨n, true, 0⟩))
    have hi : (Try.prog.info? 31).map (·.size) = some (kyC ⟨n, true, 0⟩).size := by rw [kyC_size]; exact infoKy
    have HI := Lib.hid hi
    have HS := Lib.hid (show (#[.int .u8 0, .int .u8 0, .int .u8 0, .int .u8 0, .int .u8 0, .int .u8 0, .int .u8 0, .int .u8 0, .int .u8 0, .int .u8 0, .int .u8 0, .int .u8 0, .int .u8 0, .int .u8 0, .int .u8 0, .int .u8 0, .int .u8 0, .int .u8 0, .int .u8 0, .int .u8 0, .bool false, .int .u64 0, .int .u64 0, .int .u64 0, .int .u64 0] : Array Value).size = (kyC ⟨n, true, 0⟩).size by rw [kyC_size]; rfl)
    have HO := Lib.hid (kyC_one ⟨n, true, 0⟩)
    clear hF hi
    go_wp2_with (first | (refine wpList_build_key rfl (.tmp 14) (.tmp 17) rfl _ _ _ (B2.out 0) rfl rfl ?_) | (refine wpList_store_row rfl _ (.tmp 4) (.tmp 18) rfl _ _ rfl rfl _ _ H3.out HI.out HS.out HO.out ?_))
    try simp only [Exit.inBlock, Exit.then]
    refine bodyPost_ret (results_cell_row rfl _ _ W.heap.size 31 _ (0, 0) _ rfl HF.out Try.underlying31 rfl HI.out) rfl ?_
    exact ⟨by rw [hkn.out]; rfl, qF.out⟩
  · have OF := Lib.hid (fun X => refOf_ret 1 (by unfold I64; omega) X)
    have eo : ofN 1 = 1 := by decide
    rw [eo] at OF
    go_wp2_with fail
    refine (AD.out _).mono ?_
    rintro _ w2 ⟨rfl, hb2⟩
    have Q2 := Lib.hid (Q1.out.trans (hb2.mono Q1.out.size))
    have H2 := Lib.hid (H1.out.later hb2)
    clear hb2
    go_wp2_with fail
    refine (OF.out _).mono ?_
    rintro _ w3 ⟨rfl, hb3⟩
    have Q3 := Lib.hid (Q2.out.trans (hb3.mono Q2.out.size))
    have H3 := Lib.hid (H2.out.later hb3)
    clear hb3
    have hF : Has (w3.setRow W.heap.size (kyC ⟨n, true, 1⟩)) W.heap.size 31 (kyC ⟨n, true, 1⟩) := setRow_heap _ _ _ _ _ _ H3.out
    have HF := Lib.hid hF
    have qF := Lib.hid (below_rowK Q3.out (g := W.heap.size) (Nat.le_refl _) (kyC ⟨n, true, 1⟩))
    have hi : (Try.prog.info? 31).map (·.size) = some (kyC ⟨n, true, 1⟩).size := by rw [kyC_size]; exact infoKy
    have HI := Lib.hid hi
    have HS := Lib.hid (show (#[.int .u8 0, .int .u8 0, .int .u8 0, .int .u8 0, .int .u8 0, .int .u8 0, .int .u8 0, .int .u8 0, .int .u8 0, .int .u8 0, .int .u8 0, .int .u8 0, .int .u8 0, .int .u8 0, .int .u8 0, .int .u8 0, .int .u8 0, .int .u8 0, .int .u8 0, .int .u8 0, .bool false, .int .u64 0, .int .u64 0, .int .u64 0, .int .u64 0] : Array Value).size = (kyC ⟨n, true, 1⟩).size by rw [kyC_size]; rfl)
    have HO := Lib.hid (kyC_one ⟨n, true, 1⟩)
    clear hF hi
    go_wp2_with (first | (refine wpList_build_key rfl (.tmp 14) (.tmp 17) rfl _ _ _ (B2.out 1) rfl rfl ?_) | (refine wpList_store_row rfl _ (.tmp 4) (.tmp 18) rfl _ _ rfl rfl _ _ H3.out HI.out HS.out HO.out ?_))
    try simp only [Exit.inBlock, Exit.then]
    refine bodyPost_ret (results_cell_row rfl _ _ W.heap.size 31 _ (0, 0) _ rfl HF.out Try.underlying31 rfl HI.out) rfl ?_
    exact ⟨by rw [hkn.out]; rfl, qF.out⟩
  · have OF := Lib.hid (fun X => refOf_ret 2 (by unfold I64; omega) X)
    have eo : ofN 2 = 2 := by decide
    rw [eo] at OF
    go_wp2_with fail
    refine (AD.out _).mono ?_
    rintro _ w2 ⟨rfl, hb2⟩
    have Q2 := Lib.hid (Q1.out.trans (hb2.mono Q1.out.size))
    have H2 := Lib.hid (H1.out.later hb2)
    clear hb2
    go_wp2_with fail
    refine (OF.out _).mono ?_
    rintro _ w3 ⟨rfl, hb3⟩
    have Q3 := Lib.hid (Q2.out.trans (hb3.mono Q2.out.size))
    have H3 := Lib.hid (H2.out.later hb3)
    clear hb3
    have hF : Has (w3.setRow W.heap.size (kyC ⟨n, true, 2⟩)) W.heap.size 31 (kyC ⟨n, true, 2⟩) := setRow_heap _ _ _ _ _ _ H3.out
    have HF := Lib.hid hF
    have qF := Lib.hid (below_rowK Q3.out (g := W.heap.size) (Nat.le_refl _) (kyC ⟨n, true, 2⟩))
    have hi : (Try.prog.info? 31).map (·.size) = some (kyC ⟨n, true, 2⟩).size := by rw [kyC_size]; exact infoKy
    have HI := Lib.hid hi
    have HS := Lib.hid (show (#[.int .u8 0, .int .u8 0, .int .u8 0, .int .u8 0, .int .u8 0, .int .u8 0, .int .u8 0, .int .u8 0, .int .u8 0, .int .u8 0, .int .u8 0, .int .u8 0, .int .u8 0, .int .u8 0, .int .u8 0, .int .u8 0, .int .u8 0, .int .u8 0, .int .u8 0, .int .u8 0, .bool false, .int .u64 0, .int .u64 0, .int .u64 0, .int .u64 0] : Array Value).size = (kyC ⟨n, true, 2⟩).size by rw [kyC_size]; rfl)
    have HO := Lib.hid (kyC_one ⟨n, true, 2⟩)
    clear hF hi
    go_wp2_with (first | (refine wpList_build_key rfl (.tmp 14) (.tmp 17) rfl _ _ _ (B2.out 2) rfl rfl ?_) | (refine wpList_store_row rfl _ (.tmp 4) (.tmp 18) rfl _ _ rfl rfl _ _ H3.out HI.out HS.out HO.out ?_))
    try simp only [Exit.inBlock, Exit.then]
    refine bodyPost_ret (results_cell_row rfl _ _ W.heap.size 31 _ (0, 0) _ rfl HF.out Try.underlying31 rfl HI.out) rfl ?_
    exact ⟨by rw [hkn.out]; rfl, qF.out⟩
  · have OF := Lib.hid (fun X => refOf_ret 3 (by unfold I64; omega) X)
    have eo : ofN 3 = 3 := by decide
    rw [eo] at OF
    go_wp2_with fail
    refine (AD.out _).mono ?_
    rintro _ w2 ⟨rfl, hb2⟩
    have Q2 := Lib.hid (Q1.out.trans (hb2.mono Q1.out.size))
    have H2 := Lib.hid (H1.out.later hb2)
    clear hb2
    go_wp2_with fail
    refine (OF.out _).mono ?_
    rintro _ w3 ⟨rfl, hb3⟩
    have Q3 := Lib.hid (Q2.out.trans (hb3.mono Q2.out.size))
    have H3 := Lib.hid (H2.out.later hb3)
    clear hb3
    have hF : Has (w3.setRow W.heap.size (kyC ⟨n, true, 3⟩)) W.heap.size 31 (kyC ⟨n, true, 3⟩) := setRow_heap _ _ _ _ _ _ H3.out
    have HF := Lib.hid hF
    have qF := Lib.hid (below_rowK Q3.out (g := W.heap.size) (Nat.le_refl _) (kyC ⟨n, true, 3⟩))
    have hi : (Try.prog.info? 31).map (·.size) = some (kyC ⟨n, true, 3⟩).size := by rw [kyC_size]; exact infoKy
    have HI := Lib.hid hi
    have HS := Lib.hid (show (#[.int .u8 0, .int .u8 0, .int .u8 0, .int .u8 0, .int .u8 0, .int .u8 0, .int .u8 0, .int .u8 0, .int .u8 0, .int .u8 0, .int .u8 0, .int .u8 0, .int .u8 0, .int .u8 0, .int .u8 0, .int .u8 0, .int .u8 0, .int .u8 0, .int .u8 0, .int .u8 0, .bool false, .int .u64 0, .int .u64 0, .int .u64 0, .int .u64 0] : Array Value).size = (kyC ⟨n, true, 3⟩).size by rw [kyC_size]; rfl)
    have HO := Lib.hid (kyC_one ⟨n, true, 3⟩)
    clear hF hi
    go_wp2_with (first | (refine wpList_build_key rfl (.tmp 14) (.tmp 17) rfl _ _ _ (B2.out 3) rfl rfl ?_) | (refine wpList_store_row rfl _ (.tmp 4) (.tmp 18) rfl _ _ rfl rfl _ _ H3.out HI.out HS.out HO.out ?_))
    try simp only [Exit.inBlock, Exit.then]
    refine bodyPost_ret (results_cell_row rfl _ _ W.heap.size 31 _ (0, 0) _ rfl HF.out Try.underlying31 rfl HI.out) rfl ?_
    exact ⟨by rw [hkn.out]; rfl, qF.out⟩
end Go.Proofs.Ytbkgipggblphlaa
