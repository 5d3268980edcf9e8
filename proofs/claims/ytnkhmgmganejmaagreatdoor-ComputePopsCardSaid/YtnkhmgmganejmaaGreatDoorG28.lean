/- Part. -/
import Derived.Test.YtnkhmgmganejmaaGreatDoorG27
import Derived.Test.YtnkhmgmganejmaaGreatDoorG25
import Derived.Test.YtnkhmgmganejmaaGreatDoorG26
set_option maxRecDepth 100000
set_option maxHeartbeats 16000000
namespace Go.Proofs.YtnkhmgmganejmaaGreatDoor
section
open Go Go.RowKit Go.Maps
attribute [local go_sem] Oper.semAt_some Grows wide_fn
theorem rsmall_one (n : Nat) (hn : n < 10) (w : World) : Calls Tryz.prog 27 #[.int .i64 (n : Int)] w fun e w' => e = .returned (.string ⟨(decL n).toArray⟩) ∧ w' = w := by
 have h0 : (0 : Int) ≤ (n : Int) := by omega
 have h1 : (n : Int) < 10 := by omega
 go_enter Tryz.func27, Tryz.ntmps27
 go_wp2_with (refine wpList_cutS _ rfl _ _ _ rfl _ rfl 10 (by kernel_rfl) _ _ rfl rfl h0 (by omega) (by omega) ?_)
 go_ret
 refine ⟨?_, rfl⟩
 refine congrArg Ending.returned (congrArg Value.string ?_)
 exact (by decide +kernel : ∀ n : Nat, n < 10 → (ByteArray.mk #[48, 49, 50, 51, 52, 53, 54, 55, 56, 57]).extract n (n + 1) = ⟨(decL n).toArray⟩) n hn
theorem decL_size (n : Nat) : (⟨(decL n).toArray⟩ : ByteArray).size ≤ 2 := by
 show (decL n).toArray.size ≤ 2
 unfold decL
 split <;> simp
theorem decL_two : ∀ n, n < 40 → 10 ≤ n → decL (n / 10) ++ decL (n % 10) = decL n := by decide +kernel
theorem rsmall_any (n : Nat) (hn : n < 40) (w : World) : Calls Tryz.prog 27 #[.int .i64 (n : Int)] w fun e w' => e = .returned (.string ⟨(decL n).toArray⟩) ∧ w' = w := by
 by_cases h : n < 10
 ·exact rsmall_one n h w
 ·have h0 : (0 : Int) ≤ (n : Int) := by omega
  have h1 : ¬ (n : Int) < 10 := by omega
  obtain ⟨m, hm⟩ : ∃ m, n / 10 = m := ⟨_, rfl⟩
  obtain ⟨r, hr⟩ : ∃ r, n % 10 = r := ⟨_, rfl⟩
  have HM := hid (rsmall_one m (by omega))
  have HR := hid (rsmall_one r (by omega))
  have m0 : (0 : Int) ≤ (m : Int) := by omega
  have m9 : (m : Int) < 10 := by omega
  have r0 : (0 : Int) ≤ (r : Int) := by omega
  have r9 : (r : Int) < 10 := by omega
  have e1 : (n : Int) / 10 = (m : Int) := by omega
  have e2 : (n : Int) % 10 = (r : Int) := by omega
  have e3 : Int.tdiv (n : Int) 10 = (m : Int) := by rw [Int.tdiv_eq_ediv_of_nonneg h0]; exact e1
  have e4 : Int.tmod (n : Int) 10 = (r : Int) := by rw [Int.tmod_eq_emod_of_nonneg h0]; exact e2
  have HT := hid (show (⟨(decL m).toArray⟩ : ByteArray) ++ ⟨(decL r).toArray⟩ = ⟨(decL n).toArray⟩ by rw [catB, ← hm, ← hr, decL_two n hn (by omega)])
  have s1 := decL_size m
  have s2 := decL_size r
  obtain ⟨x1, hx1⟩ : ∃ x, (⟨(decL m).toArray⟩ : ByteArray) = x := ⟨_, rfl⟩
  obtain ⟨x2, hx2⟩ : ∃ x, (⟨(decL r).toArray⟩ : ByteArray) = x := ⟨_, rfl⟩
  rw [hx1] at HM HT s1
  rw [hx2] at HR HT s2
  rw [← HT.out]
  have hsz : ¬ 9223372036854775807 < x1.size + x2.size := by omega
  have hsz2 : x1.size + x2.size ≤ 9223372036854775807 := by omega
  clear hx1 hx2 s1 s2 hm hr hn h HT
  go_enter Tryz.func27, Tryz.ntmps27
  go_wp2_with fail
  refine (HM.out _).mono ?_
  rintro _ w1 ⟨rfl, rfl⟩
  go_wp2_with fail
  refine (HR.out _).mono ?_
  rintro _ w2 ⟨rfl, rfl⟩
  go_wp2
  go_ret
  exact ⟨rfl, rfl⟩
instance instDecInf : DecidableEq Inf := inferInstanceAs (DecidableEq (List UInt8 × Nat × Nat × Nat))
theorem inf_push : ∀ op, op < 128 → 96 ≤ op → opI op = some ([80, 85, 83, 72] ++ decL (op - 95), 0, 1, 3) := by decide +kernel
theorem inf_dup : ∀ op, op < 144 → 128 ≤ op → opI op = some ([68, 85, 80] ++ decL (op - 127), op - 127, op - 126, 3) := by decide +kernel
theorem inf_swap : ∀ op, op < 160 → 144 ≤ op → opI op = some ([83, 87, 65, 80] ++ decL (op - 143), op - 142, op - 142, 3) := by decide +kernel
theorem inf_log : ∀ op, op < 165 → 160 ≤ op → opI op = some ([76, 79, 71] ++ decL (op - 160), op - 158, 0, 375 * (op - 159)) := by decide +kernel
theorem inf_named {op : Nat} (h : ¬ (96 ≤ op ∧ op ≤ 164)) : lookV nmI op = lookV opI op := by unfold lookV nmI; rw [if_neg h]
theorem rinfo_push (W : World) (op : Nat) (h1 : 96 ≤ op) (h2 : op ≤ 127) : Calls Tryz.prog 16 #[.int .u8 (op : Int)] W fun e w' => e = .returned (lookV opI op) ∧ Below W.heap.size W w' := by
 have R := Has.new W 37 #[.string ⟨#[]⟩, .int .i64 0, .int .i64 0, .int .i64 0]
 have c0 := R.cell 0 _ rfl
 have c1 := R.cell 1 _ rfl
 have c2 := R.cell 2 _ rfl
 have c3 := R.cell 3 _ rfl
 have z0 := R.frozen 0
 have z1 := R.frozen 1
 have z2 := R.frozen 2
 have z3 := R.frozen 3
 clear R
 obtain ⟨m, hm⟩ : ∃ m, op - 95 = m := ⟨_, rfl⟩
 have hmI : (op : Int) - 95 = (m : Int) := by omega
 have HS := hid (rsmall_any m (by omega))
 have HV := hid (show lookV opI op = .tuple #[.agg #[.string ((⟨#[80, 85, 83, 72]⟩ : ByteArray) ++ ⟨(decL m).toArray⟩), .int .i64 0, .int .i64 1, .int .i64 3], .bool true] by
  unfold lookV
  rw [inf_push op (by omega) h1, hm]
  rw [show (⟨#[80, 85, 83, 72]⟩ : ByteArray) = ⟨([80, 85, 83, 72] : List UInt8).toArray⟩ from rfl, catB]
  rfl)
 have s1 := decL_size m
 obtain ⟨x1, hx1⟩ : ∃ x, (⟨(decL m).toArray⟩ : ByteArray) = x := ⟨_, rfl⟩
 rw [hx1] at HS HV s1
 have hsz : ¬ 9223372036854775807 < 4 + x1.size := by omega
 have hsz2 : 4 + x1.size ≤ 9223372036854775807 := by omega
 obtain ⟨V, hV⟩ : ∃ V, lookV opI op = V := ⟨_, rfl⟩
 rw [hV] at HV ⊢
 have hbd := fun (s : ByteArray) (w : World) => (show (Instr.build 37 #[(0, .string s), (2, .int .i64 1), (3, .int .i64 3)]).run Tryz.prog w = .ok (.agg #[.string s, .int .i64 0, .int .i64 1, .int .i64 3]) w by kernel_rfl)
 have g0 : (op : Int) ≥ 96 := by omega
 have g1 : ¬ (op : Int) ≥ 128 := by omega
 have g2 : ¬ (op : Int) ≥ 144 := by omega
 have g3 : ¬ (op : Int) ≥ 160 := by omega
 have l0 : (op : Int) ≤ 127 := by omega
 have l1 : (op : Int) ≤ 143 := by omega
 have l2 : (op : Int) ≤ 159 := by omega
 have l3 : (op : Int) ≤ 164 := by omega
 have o0 : (0 : Int) ≤ (op : Int) := by omega
 have o1 : (op : Int) < 256 := by omega
 clear hx1 s1 hm h1 h2 hV
 go_enter Tryz.func16, Tryz.ntmps16
 go_wp2_with fail
 refine (HS.out _).mono ?_
 rintro _ w1 ⟨rfl, rfl⟩
 go_wp2
 refine bodyPost_ret (results_infB (.inr rfl) rfl rfl rfl (Has.new W _ _)) rfl ⟨?_, (Below.refl _ W).alloc (Nat.le_refl _) _⟩
 rw [HV.out]
 rfl
theorem rinfo_dup (W : World) (op : Nat) (h1 : 128 ≤ op) (h2 : op ≤ 143) : Calls Tryz.prog 16 #[.int .u8 (op : Int)] W fun e w' => e = .returned (lookV opI op) ∧ Below W.heap.size W w' := by
 have R := Has.new W 37 #[.string ⟨#[]⟩, .int .i64 0, .int .i64 0, .int .i64 0]
 have c0 := R.cell 0 _ rfl
 have c1 := R.cell 1 _ rfl
 have c2 := R.cell 2 _ rfl
 have c3 := R.cell 3 _ rfl
 have z0 := R.frozen 0
 have z1 := R.frozen 1
 have z2 := R.frozen 2
 have z3 := R.frozen 3
 clear R
 obtain ⟨m, hm⟩ : ∃ m, op - 127 = m := ⟨_, rfl⟩
 have hmI : (op : Int) - 127 = (m : Int) := by omega
 have HS := hid (rsmall_any m (by omega))
 obtain ⟨m2, hm2⟩ : ∃ x, op - 126 = x := ⟨_, rfl⟩
 have hm2I : (op : Int) - 126 = (m2 : Int) := by omega
 have HV := hid (show lookV opI op = .tuple #[.agg #[.string ((⟨#[68, 85, 80]⟩ : ByteArray) ++ ⟨(decL m).toArray⟩), .int .i64 (m : Int), .int .i64 (m2 : Int), .int .i64 3], .bool true] by
  unfold lookV
  rw [inf_dup op (by omega) h1, hm, hm2]
  rw [show (⟨#[68, 85, 80]⟩ : ByteArray) = ⟨([68, 85, 80] : List UInt8).toArray⟩ from rfl, catB]
  rfl)
 have s1 := decL_size m
 obtain ⟨x1, hx1⟩ : ∃ x, (⟨(decL m).toArray⟩ : ByteArray) = x := ⟨_, rfl⟩
 rw [hx1] at HS HV s1
 have hsz : ¬ 9223372036854775807 < 3 + x1.size := by omega
 have hsz2 : 3 + x1.size ≤ 9223372036854775807 := by omega
 obtain ⟨V, hV⟩ : ∃ V, lookV opI op = V := ⟨_, rfl⟩
 rw [hV] at HV ⊢
 have hbd := fun (s : ByteArray) (a b : Int ) (w : World) => (show (Instr.build 37 #[(0, .string s), (1, .int .i64 a), (2, .int .i64 b), (3, .int .i64 3)]).run Tryz.prog w = .ok (.agg #[.string s, .int .i64 a, .int .i64 b, .int .i64 3]) w by kernel_rfl)
 have g0 : (op : Int) ≥ 96 := by omega
 have g1 : (op : Int) ≥ 128 := by omega
 have g2 : ¬ (op : Int) ≥ 144 := by omega
 have g3 : ¬ (op : Int) ≥ 160 := by omega
 have l0 : ¬ (op : Int) ≤ 127 := by omega
 have l1 : (op : Int) ≤ 143 := by omega
 have l2 : (op : Int) ≤ 159 := by omega
 have l3 : (op : Int) ≤ 164 := by omega
 have o0 : (0 : Int) ≤ (op : Int) := by omega
 have o1 : (op : Int) < 256 := by omega
 clear hx1 s1 hm h1 h2 hV hm2
 go_enter Tryz.func16, Tryz.ntmps16
 go_wp2_with fail
 refine (HS.out _).mono ?_
 rintro _ w1 ⟨rfl, rfl⟩
 go_wp2
 refine bodyPost_ret (results_infB (.inr rfl) rfl rfl rfl (Has.new W _ _)) rfl ⟨?_, (Below.refl _ W).alloc (Nat.le_refl _) _⟩
 rw [HV.out]
 rfl
theorem rinfo_swap (W : World) (op : Nat) (h1 : 144 ≤ op) (h2 : op ≤ 159) : Calls Tryz.prog 16 #[.int .u8 (op : Int)] W fun e w' => e = .returned (lookV opI op) ∧ Below W.heap.size W w' := by
 have R := Has.new W 37 #[.string ⟨#[]⟩, .int .i64 0, .int .i64 0, .int .i64 0]
 have c0 := R.cell 0 _ rfl
 have c1 := R.cell 1 _ rfl
 have c2 := R.cell 2 _ rfl
 have c3 := R.cell 3 _ rfl
 have z0 := R.frozen 0
 have z1 := R.frozen 1
 have z2 := R.frozen 2
 have z3 := R.frozen 3
 clear R
 obtain ⟨m, hm⟩ : ∃ m, op - 143 = m := ⟨_, rfl⟩
 have hmI : (op : Int) - 143 = (m : Int) := by omega
 have HS := hid (rsmall_any m (by omega))
 obtain ⟨m2, hm2⟩ : ∃ x, op - 142 = x := ⟨_, rfl⟩
 have hm2I : (op : Int) - 142 = (m2 : Int) := by omega
 have HV := hid (show lookV opI op = .tuple #[.agg #[.string ((⟨#[83, 87, 65, 80]⟩ : ByteArray) ++ ⟨(decL m).toArray⟩), .int .i64 (m2 : Int), .int .i64 (m2 : Int), .int .i64 3], .bool true] by
  unfold lookV
  rw [inf_swap op (by omega) h1, hm, hm2]
  rw [show (⟨#[83, 87, 65, 80]⟩ : ByteArray) = ⟨([83, 87, 65, 80] : List UInt8).toArray⟩ from rfl, catB]
  rfl)
 have s1 := decL_size m
 obtain ⟨x1, hx1⟩ : ∃ x, (⟨(decL m).toArray⟩ : ByteArray) = x := ⟨_, rfl⟩
 rw [hx1] at HS HV s1
 have hsz : ¬ 9223372036854775807 < 4 + x1.size := by omega
 have hsz2 : 4 + x1.size ≤ 9223372036854775807 := by omega
 obtain ⟨V, hV⟩ : ∃ V, lookV opI op = V := ⟨_, rfl⟩
 rw [hV] at HV ⊢
 have hbd := fun (s : ByteArray) (a b : Int ) (w : World) => (show (Instr.build 37 #[(0, .string s), (1, .int .i64 a), (2, .int .i64 b), (3, .int .i64 3)]).run Tryz.prog w = .ok (.agg #[.string s, .int .i64 a, .int .i64 b, .int .i64 3]) w by kernel_rfl)
 have g0 : (op : Int) ≥ 96 := by omega
 have g1 : (op : Int) ≥ 128 := by omega
 have g2 : (op : Int) ≥ 144 := by omega
 have g3 : ¬ (op : Int) ≥ 160 := by omega
 have l0 : ¬ (op : Int) ≤ 127 := by omega
 have l1 : ¬ (op : Int) ≤ 143 := by omega
 have l2 : (op : Int) ≤ 159 := by omega
 have l3 : (op : Int) ≤ 164 := by omega
 have o0 : (0 : Int) ≤ (op : Int) := by omega
 have o1 : (op : Int) < 256 := by omega
 clear hx1 s1 hm h1 h2 hV hm2
 go_enter Tryz.func16, Tryz.ntmps16
 go_wp2_with fail
 refine (HS.out _).mono ?_
 rintro _ w1 ⟨rfl, rfl⟩
 go_wp2
 refine bodyPost_ret (results_infB (.inr rfl) rfl rfl rfl (Has.new W _ _)) rfl ⟨?_, (Below.refl _ W).alloc (Nat.le_refl _) _⟩
 rw [HV.out]
 rfl
theorem rinfo_log (W : World) (op : Nat) (h1 : 160 ≤ op) (h2 : op ≤ 164) : Calls Tryz.prog 16 #[.int .u8 (op : Int)] W fun e w' => e = .returned (lookV opI op) ∧ Below W.heap.size W w' := by
 have R := Has.new W 37 #[.string ⟨#[]⟩, .int .i64 0, .int .i64 0, .int .i64 0]
 have c0 := R.cell 0 _ rfl
 have c1 := R.cell 1 _ rfl
 have c2 := R.cell 2 _ rfl
 have c3 := R.cell 3 _ rfl
 have z0 := R.frozen 0
 have z1 := R.frozen 1
 have z2 := R.frozen 2
 have z3 := R.frozen 3
 clear R
 obtain ⟨m, hm⟩ : ∃ m, op - 160 = m := ⟨_, rfl⟩
 have hmI : (op : Int) - 160 = (m : Int) := by omega
 have HS := hid (rsmall_any m (by omega))
 obtain ⟨m3, hm3⟩ : ∃ x, op - 158 = x := ⟨_, rfl⟩
 have hm3I : (op : Int) - 158 = (m3 : Int) := by omega
 obtain ⟨m2, hm2⟩ : ∃ x, op - 159 = x := ⟨_, rfl⟩
 have hm2I : (op : Int) - 159 = (m2 : Int) := by omega
 obtain ⟨gq, hgq⟩ : ∃ x, 375 * m2 = x := ⟨_, rfl⟩
 have hgqI : (375 : Int) * (m2 : Int) = (gq : Int) := by omega
 have hm2b : (m2 : Int) ≤ 5 := by omega
 have hm20 : (0 : Int) ≤ (m2 : Int) := by omega
 have HV := hid (show lookV opI op = .tuple #[.agg #[.string ((⟨#[76, 79, 71]⟩ : ByteArray) ++ ⟨(decL m).toArray⟩), .int .i64 (m3 : Int), .int .i64 0, .int .i64 (gq : Int)], .bool true] by
  unfold lookV
  rw [inf_log op (by omega) h1, hm, hm3, hm2, hgq]
  rw [show (⟨#[76, 79, 71]⟩ : ByteArray) = ⟨([76, 79, 71] : List UInt8).toArray⟩ from rfl, catB]
  rfl)
 have s1 := decL_size m
 obtain ⟨x1, hx1⟩ : ∃ x, (⟨(decL m).toArray⟩ : ByteArray) = x := ⟨_, rfl⟩
 rw [hx1] at HS HV s1
 have hsz : ¬ 9223372036854775807 < 3 + x1.size := by omega
 have hsz2 : 3 + x1.size ≤ 9223372036854775807 := by omega
 obtain ⟨V, hV⟩ : ∃ V, lookV opI op = V := ⟨_, rfl⟩
 rw [hV] at HV ⊢
 have hbd := fun (s : ByteArray) (a b : Int ) (w : World) => (show (Instr.build 37 #[(0, .string s), (1, .int .i64 a), (3, .int .i64 b)]).run Tryz.prog w = .ok (.agg #[.string s, .int .i64 a, .int .i64 0, .int .i64 b]) w by kernel_rfl)
 have g0 : (op : Int) ≥ 96 := by omega
 have g1 : (op : Int) ≥ 128 := by omega
 have g2 : (op : Int) ≥ 144 := by omega
 have g3 : (op : Int) ≥ 160 := by omega
 have l0 : ¬ (op : Int) ≤ 127 := by omega
 have l1 : ¬ (op : Int) ≤ 143 := by omega
 have l2 : ¬ (op : Int) ≤ 159 := by omega
 have l3 : (op : Int) ≤ 164 := by omega
 have o0 : (0 : Int) ≤ (op : Int) := by omega
 have o1 : (op : Int) < 256 := by omega
 clear hx1 s1 hm h1 h2 hV hm3 hm2 hgq
 go_enter Tryz.func16, Tryz.ntmps16
 go_wp2_with fail
 refine (HS.out _).mono ?_
 rintro _ w1 ⟨rfl, rfl⟩
 go_wp2
 refine bodyPost_ret (results_infB (.inr rfl) rfl rfl rfl (Has.new W _ _)) rfl ⟨?_, (Below.refl _ W).alloc (Nat.le_refl _) _⟩
 rw [HV.out]
 rfl
theorem rinfo_named (W : World) (op : Nat) (ho : op < 256) (h : ¬ (96 ≤ op ∧ op ≤ 164)) : Calls Tryz.prog 16 #[.int .u8 (op : Int)] W fun e w' => e = .returned (lookV opI op) ∧ Below W.heap.size W w' := by
 obtain ⟨W1, hW1, R, q1⟩ := newBox W 37 #[.string ⟨#[]⟩, .int .i64 0, .int .i64 0, .int .i64 0]
 have HR := hid R
 have Q1 := hid q1
 have HN := hid (rnamed_any W1 op ho)
 rw [inf_named h] at HN
 obtain ⟨s, po, pu, ga, b, hV⟩ := lookV_parts opI op
 rw [hV] at HN ⊢
 have key : ((op : Int) < 96) ∨ ((164 : Int) < op) := by omega
 have o0 : (0 : Int) ≤ (op : Int) := by omega
 have o1 : (op : Int) < 256 := by omega
 have HW1 := hid hW1
 clear h ho hV R q1 hW1
 rcases key with hk | hk
 ·have g0 : ¬ (op : Int) ≥ 96 := by omega
  have g1 : ¬ (op : Int) ≥ 128 := by omega
  have g2 : ¬ (op : Int) ≥ 144 := by omega
  have g3 : ¬ (op : Int) ≥ 160 := by omega
  have l0 : (op : Int) ≤ 127 := by omega
  have l1 : (op : Int) ≤ 143 := by omega
  have l2 : (op : Int) ≤ 159 := by omega
  have l3 : (op : Int) ≤ 164 := by omega
  go_enter Tryz.func16, Tryz.ntmps16
  go_wp2_with fail
  rw [HW1.out]
  refine HN.out.mono ?_
  rintro _ w2 ⟨rfl, q2⟩
  have R2 := HR.out.later q2
  have HQ2 := hid (Q1.out.trans (q2.mono Q1.out.size))
  have c0 := R2.cell 0 _ rfl
  have z0 := R2.frozen 0
  have c1 := R2.cell 1 _ rfl
  have z1 := R2.frozen 1
  have c2 := R2.cell 2 _ rfl
  have z2 := R2.frozen 2
  have c3 := R2.cell 3 _ rfl
  have z3 := R2.frozen 3
  have HR2 := hid ((((R2.set 0 (.string s)).set 1 (.int .i64 (po : Int))).set 2 (.int .i64 (pu : Int))).set 3 (.int .i64 (ga : Int)))
  have HQ := hid ((((HQ2.out.setCell (p := ⟨W.heap.size, 0, none⟩) (Nat.le_refl _) (.string s)).setCell (p := ⟨W.heap.size, 1, none⟩) (Nat.le_refl _) (.int .i64 (po : Int))).setCell (p := ⟨W.heap.size, 2, none⟩) (Nat.le_refl _) (.int .i64 (pu : Int))).setCell (p := ⟨W.heap.size, 3, none⟩) (Nat.le_refl _) (.int .i64 (ga : Int)))
  clear R2 q2 HQ2 HN HW1
  go_wp2
  exact bodyPost_ret (results_infB (.inr rfl) rfl rfl rfl HR2.out) rfl ⟨rfl, HQ.out⟩
 ·have g0 : (op : Int) ≥ 96 := by omega
  have g1 : (op : Int) ≥ 128 := by omega
  have g2 : (op : Int) ≥ 144 := by omega
  have g3 : (op : Int) ≥ 160 := by omega
  have l0 : ¬ (op : Int) ≤ 127 := by omega
  have l1 : ¬ (op : Int) ≤ 143 := by omega
  have l2 : ¬ (op : Int) ≤ 159 := by omega
  have l3 : ¬ (op : Int) ≤ 164 := by omega
  go_enter Tryz.func16, Tryz.ntmps16
  go_wp2_with fail
  rw [HW1.out]
  refine HN.out.mono ?_
  rintro _ w2 ⟨rfl, q2⟩
  have R2 := HR.out.later q2
  have HQ2 := hid (Q1.out.trans (q2.mono Q1.out.size))
  have c0 := R2.cell 0 _ rfl
  have z0 := R2.frozen 0
  have c1 := R2.cell 1 _ rfl
  have z1 := R2.frozen 1
  have c2 := R2.cell 2 _ rfl
  have z2 := R2.frozen 2
  have c3 := R2.cell 3 _ rfl
  have z3 := R2.frozen 3
  have HR2 := hid ((((R2.set 0 (.string s)).set 1 (.int .i64 (po : Int))).set 2 (.int .i64 (pu : Int))).set 3 (.int .i64 (ga : Int)))
  have HQ := hid ((((HQ2.out.setCell (p := ⟨W.heap.size, 0, none⟩) (Nat.le_refl _) (.string s)).setCell (p := ⟨W.heap.size, 1, none⟩) (Nat.le_refl _) (.int .i64 (po : Int))).setCell (p := ⟨W.heap.size, 2, none⟩) (Nat.le_refl _) (.int .i64 (pu : Int))).setCell (p := ⟨W.heap.size, 3, none⟩) (Nat.le_refl _) (.int .i64 (ga : Int)))
  clear R2 q2 HQ2 HN HW1
  go_wp2
  exact bodyPost_ret (results_infB (.inr rfl) rfl rfl rfl HR2.out) rfl ⟨rfl, HQ.out⟩
theorem rinfo_any (W : World) (op : Nat) (ho : op < 256) : Calls Tryz.prog 16 #[.int .u8 (op : Int)] W fun e w' => e = .returned (lookV opI op) ∧ Below W.heap.size W w' := by
 by_cases h : 96 ≤ op ∧ op ≤ 164
 ·obtain ⟨h1, h2⟩ := h
  by_cases a : op ≤ 127
  ·exact rinfo_push W op h1 a
  ·by_cases b : op ≤ 143
   ·exact rinfo_dup W op (by omega) b
   ·by_cases c : op ≤ 159
    ·exact rinfo_swap W op (by omega) c
    ·exact rinfo_log W op (by omega) h2
 ·exact rinfo_named W op ho h
end
section
open Go Go.RowKit
attribute [local go_sem] Oper.semAt_some Grows wide_fn eq4
def LoopP (w0 : World) (a b k : Nat) (lv : Value) (wr : World) : Prop := WdRow wr w0.heap.size lv (poL a b k) ∧ Below w0.heap.size w0 wr
theorem pops_w (W : World) (hT : Tab W) (op dp : Int) (a b x n po pu ga tl st : Nat) (sb : ByteArray) (bb is : Bool) (c : Int) (L TL : List Nat) (ha : W256 a) (hb : W256 b) (hop : I64 op) (hdp : I64 dp) (hp : pickN op 256 = (x : Int)) (hx : x < 256) (hd : pickN dp 25 = (n : Int)) (hn : n < 25)
  (hL : poL a b n = L) (hd1 : doE x L = c) (hd2 : doL x L = TL) (htl : TL.length = tl) (hi : lookV opI x = .tuple #[.agg #[.string sb, .int .i64 (po : Int), .int .i64 (pu : Int), .int .i64 (ga : Int)], .bool bb]) (his : isOp x = is) (hb24 : tl ≤ 100 ∧ po ≤ 100 ∧ pu ≤ 100)
  (hK : (c ≠ 0 ∧ TL = L ∧ ((is = false ∧ c = 42) ∨ (is = true ∧ c = 40 ∧ n < po))) ∨ (c = 0 ∧ is = true ∧ TL.take st = L.take st ∧ st ≤ n ∧ st ≤ tl ∧ tl + po = n + pu ∧ ((x < 128 ∧ st + po = n) ∨ (128 ≤ x ∧ ((n < 17 ∧ st = 0) ∨ (17 ≤ n ∧ st + 17 = n)))))) :
  Calls Tryz.prog 4 #[.int .i64 op, wv a, wv b, .int .i64 dp] W fun e w' => e = .returned (.bool true) ∧ Below W.heap.size W w' := by
 have hmx : Tryz.prog.follows .mixedOrders = true := by kernel_rfl
 have HTB := hid hT
 have Va := hid ha
 have Vb := hid hb
 have HPK := hid (pick_ret16 op hop 256 (by decide) (by decide))
 have HPD := hid (pick_ret16 dp hdp 25 (by decide) (by decide))
 rw [hp] at HPK
 rw [hd] at HPD
 have HX := hid hx
 have HN := hid hn
 have HIN := hid (show ∀ w, Calls Tryz.prog 16 #[.int .u8 (x : Int)] w fun e w' => e = .returned (lookV opI x) ∧ Below w.heap.size w w' from fun w => rinfo_any w x hx)
 rw [hi] at HIN
 have HIS := hid (fun w => is_any x hx w)
 rw [his] at HIS
 have HK := hid hK
 have HB24 := hid hb24
 have x0 : (0 : Int) ≤ (x : Int) := by omega
 have x1 : (x : Int) < 256 := by omega
 have JhL := hid hL
 have Jhd1 := hid hd1
 have Jhd2 := hid hd2
 have Jhtl := hid htl
 clear hT ha hb hop hdp hp hx hd hn hL hd1 hd2 htl hi his hK hb24
 unfold wv
 go_enter Tryz.func4, Tryz.ntmps4
 have q1 := newA W (.cells #[.int .u64 (lim a 0), .int .u64 (lim a 1), .int .u64 (lim a 2), .int .u64 (lim a 3)] 24)
 have HAt := Has.new W 24 #[.int .u64 (lim a 0), .int .u64 (lim a 1), .int .u64 (lim a 2), .int .u64 (lim a 3)]
 try simp only [World.size_alloc] at HAt
 have HA := hid HAt
 clear HAt
 replace HTB := hid (HTB.out.later q1)
 have QQ := hid q1
 clear q1
 have LB := hid QQ.out.size
 have q2 := (Below.refl (W.alloc (.cells #[.int .u64 (lim a 0), .int .u64 (lim a 1), .int .u64 (lim a 2), .int .u64 (lim a 3)] 24)).heap.size (W.alloc (.cells #[.int .u64 (lim a 0), .int .u64 (lim a 1), .int .u64 (lim a 2), .int .u64 (lim a 3)] 24))).alloc (Nat.le_refl _) (.cells #[.int .u64 (lim b 0), .int .u64 (lim b 1), .int .u64 (lim b 2), .int .u64 (lim b 3)] 24)
 have HBt := Has.new (W.alloc (.cells #[.int .u64 (lim a 0), .int .u64 (lim a 1), .int .u64 (lim a 2), .int .u64 (lim a 3)] 24)) 24 #[.int .u64 (lim b 0), .int .u64 (lim b 1), .int .u64 (lim b 2), .int .u64 (lim b 3)]
 try simp only [World.size_alloc] at HBt
 have HB := hid HBt
 clear HBt
 replace HTB := hid (HTB.out.later q2)
 replace HA := hid (HA.out.later q2)
 replace QQ := hid (QQ.out.trans (q2.mono QQ.out.size))
 clear q2
 go_wp2_with fail
 refine (awake_any _ HTB.out).mono ?_
 rintro _ w3 ⟨rfl, q⟩
 replace HTB := hid (HTB.out.later q)
 replace HA := hid (HA.out.later q)
 replace HB := hid (HB.out.later q)
 replace QQ := hid (QQ.out.trans (q.mono QQ.out.size))
 clear q
 go_wp2_with fail
 refine (HPK.out _).mono ?_
 rintro _ w4 ⟨rfl, q4⟩
 replace HTB := hid (HTB.out.later q4)
 replace HA := hid (HA.out.later q4)
 replace HB := hid (HB.out.later q4)
 replace QQ := hid (QQ.out.trans (q4.mono QQ.out.size))
 clear q4
 have HL0 := hid (show LoopP w4 a b 0 (.slice none 0 0) w4 from ⟨WdRow.nil _ _, Below.refl _ _⟩)
 go_wp2_with fail
 go_loopw [11, 12] (fun lv i wr => ∃ k : Nat, k ≤ n ∧ i = .int .i64 (k : Int) ∧ LoopP w4 a b k lv wr) (fun _ i _ => 25 - (intOf i).toNat)
 case atStart => exact ⟨0, by omega, rfl, HL0.out⟩
 case round =>
  obtain ⟨k, hk, rfl, hrow, hq⟩ := hrel
  obtain ⟨lv, hlv⟩ : ∃ lv, lv = u11 := ⟨_, rfl⟩
  subst hlv
  have HROW := hid hrow
  have HQ := hid hq
  clear hrow hq
  go_wp2_with fail
  refine (HPD.out _).mono ?_
  rintro _ wp ⟨rfl, qp⟩
  replace HROW := hid (HROW.out.later qp)
  replace HQ := hid (HQ.out.trans (qp.mono HQ.out.size))
  clear qp
  by_cases hlt : k < n
  ·have hltI : (k : Int) < (n : Int) := by omega
   have k25 : (k : Int) < 25 := by have := HN.out; omega
   have k0 : (0 : Int) ≤ (k : Int) := by omega
   obtain ⟨r, hr4, hrm, hel⟩ := po_at a b k
   have HEL := hid hel
   have HZW := hid (po_lt a b k Va.out Vb.out (by have := HN.out; omega))
   have HSU := hid (poL_succ a b k)
   generalize poN a b k = zz at *
   have HOF := hid (of_nat k (by have := HN.out; omega))
   have HKN := hid (show k < n from hlt)
   have r0 : (0 : Int) ≤ (r : Int) := by omega
   have r4 : (r : Int) < 3 := by omega
   have hrt : Int.tmod (k : Int) 3 = (r : Int) := by rw [Int.tmod_eq_emod_of_nonneg k0]; exact hrm
   clear hk hlt hel
   go_wp2_with fail
   obtain ⟨V, hV⟩ : ∃ V, V = wp := ⟨_, rfl⟩
   subst hV
   have HBV := HQ
   have HALLW := hid (show ∀ x ∈ [a, b, k], W256 x by simp only [List.mem_cons, List.not_mem_nil, or_false, forall_eq_or_imp, forall_eq]; exact ⟨Va.out, Vb.out, by have := HKN.out; have := HN.out; unfold W256; omega⟩)
   have HLE := hid (show (poL a b k).length + [zz].length ≤ 100000 by rw [poL_length]; have := HKN.out; have := HN.out; simp; omega)
   refine Late.wp_region_ghost [some lv, some (.agg #[.int .u64 (lim a 0), .int .u64 (lim a 1), .int .u64 (lim a 2), .int .u64 (lim a 3)]), some (.agg #[.int .u64 (lim b 0), .int .u64 (lim b 1), .int .u64 (lim b 2), .int .u64 (lim b 3)]), some (.int .i64 (k : Int)), some (.agg #[.int .u64 (lim k 0), .int .u64 (lim k 1), .int .u64 (lim k 2), .int .u64 (lim k 3)]), none, some (.int .i64 (k : Int)), some (.int .i64 (r : Int)), none, some (.agg #[.int .u64 (lim zz 0), .int .u64 (lim zz 1), .int .u64 (lim zz 2), .int .u64 (lim zz 3)]), none, none, none] [[], [], [], [], [3], [1, 2, 3, 4], [], [6], [1, 2, 3, 4, 5, 6, 7], [1, 2, 3, 4, 5, 6, 7, 8], [1, 2, 3, 4, 5, 6, 7, 8, 9], [0, 1, 2, 3, 4, 5, 6, 7, 8, 9, 10], [0, 1, 2, 3, 4, 5, 6, 7, 8, 9, 10, 11]] (UCh 5 8 10 11 12 V w4 (poL a b k) [a, b, k] zz r lv) hmx (by kernel_rfl) (by kernel_rfl) (fun f g w w' h hb => h.later hb) (fun f f' g g' w hh h => h.same (fun j hj => hh j (by rcases hj with rfl | rfl | rfl | rfl | rfl <;> rfl))) (UCh.start (by decide) (by decide) (by decide) (by decide) HROW.out HBV.out) ?_
   rintro f g y hU0 Dn
   have hU := hid hU0
   have qy := hid (show f 11 = false → Below V.heap.size V y from fun h => (hU0.2.1 h).2.1)
   clear hU0
   have n12 : ∀ j, j < 11 → f j = false → f 11 = false := fun j hj h => by
    cases e : f 11 with
    | false => rfl
    | true => exact absurd (Dn 11 e j (by simp only [List.getD_cons_succ, List.getD_cons_zero, List.mem_cons, List.not_mem_nil, or_false]; omega)) (by rw [h]; decide)
   have HN12 := hid n12
   clear n12
   refine GW.known _ rfl (fun hd hf => ?_) ?_
   ·go_wp2
    exact ⟨rfl, rfl, Below.refl _ _⟩
   simp only [Act.put, sT, sS, sZ]
   refine GW.known _ rfl (fun hd hf => ?_) ?_
   ·have q := qy.out (HN12.out 1 (by decide) hf)
    have l0 := ((HA.out.later HQ.out).later q).cell 0 _ rfl
    have l1 := ((HA.out.later HQ.out).later q).cell 1 _ rfl
    have l2 := ((HA.out.later HQ.out).later q).cell 2 _ rfl
    have l3 := ((HA.out.later HQ.out).later q).cell 3 _ rfl
    go_wp2
    exact ⟨rfl, rfl, Below.refl _ _⟩
   simp only [Act.put, sT, sS, sZ]
   refine GW.known _ rfl (fun hd hf => ?_) ?_
   ·have q := qy.out (HN12.out 2 (by decide) hf)
    have l0 := ((HB.out.later HQ.out).later q).cell 0 _ rfl
    have l1 := ((HB.out.later HQ.out).later q).cell 1 _ rfl
    have l2 := ((HB.out.later HQ.out).later q).cell 2 _ rfl
    have l3 := ((HB.out.later HQ.out).later q).cell 3 _ rfl
    go_wp2
    exact ⟨rfl, rfl, Below.refl _ _⟩
   simp only [Act.put, sT, sS, sZ]
   refine GW.known _ rfl (fun hd hf => ?_) ?_
   ·go_wp2
    exact ⟨rfl, rfl, Below.refl _ _⟩
   simp only [Act.put, sT, sS, sZ]
   refine GW.known _ rfl (fun hd hf => ?_) ?_
   ·go_wp2_with fail
    refine (HOF.out _).mono ?_
    rintro e u ⟨rfl, hb⟩
    go_wp2
    exact ⟨rfl, rfl, hb⟩
   simp only [Act.put, sT, sS, sZ]
   refine GW.open rfl (fun hd hf => ?_) ?_
   ·have K := hid (hU.out.n6 (by decide) (by decide) (by decide) (by decide) (newA y (.cells #[.int .u64 (lim a 0), .int .u64 (lim a 1), .int .u64 (lim a 2), .int .u64 (lim a 3), .int .u64 (lim b 0), .int .u64 (lim b 1), .int .u64 (lim b 2), .int .u64 (lim b 3), .int .u64 (lim k 0), .int .u64 (lim k 1), .int .u64 (lim k 2), .int .u64 (lim k 3)] 24)) (by cases e : f 8 with | false => rfl | true => exact absurd (Dn 8 e 5 (by decide)) (by rw [hf]; decide)) (made_ofC y [a, b, k] [.int .u64 (lim a 0), .int .u64 (lim a 1), .int .u64 (lim a 2), .int .u64 (lim a 3), .int .u64 (lim b 0), .int .u64 (lim b 1), .int .u64 (lim b 2), .int .u64 (lim b 3), .int .u64 (lim k 0), .int .u64 (lim k 1), .int .u64 (lim k 2), .int .u64 (lim k 3)] rfl HALLW.out (by simp)))
    go_wp2
    exact ⟨rfl, K.out⟩
   simp only [Act.put, sT, sS, sZ]
   refine GW.known _ rfl (fun hd hf => ?_) ?_
   ·go_wp2
    exact ⟨rfl, rfl, Below.refl _ _⟩
   simp only [Act.put, sT, sS, sZ]
   refine GW.known _ rfl (fun hd hf => ?_) ?_
   ·go_wp2
    exact ⟨rfl, rfl, Below.refl _ _⟩
   simp only [Act.put, sT, sS, sZ]
   refine GW.open rfl (fun hd hf => ?_) ?_
   ·obtain ⟨b6, e6, k6⟩ := hU.out.g6 (HN12.out 8 (by decide) hf) (hd 5 (by decide))
    rw [e6]
    have K := hid (hU.out.n9 (by decide) (by decide) (by decide) (by decide) (hd 5 (by decide)) e6)
    go_wp2
    exact ⟨rfl, K.out⟩
   simp only [Act.put, sT, sS, sZ]
   refine GW.known _ rfl (fun hd hf => ?_) ?_
   ·have f6 : f 5 = true := Dn 8 (hd 8 (by decide)) 5 (by decide)
    obtain ⟨b6, e6, k6⟩ := hU.out.g6 (HN12.out 9 (by decide) hf) f6
    rw [hU.out.g9 (HN12.out 9 (by decide) hf) f6 (hd 8 (by decide)) e6]
    obtain ⟨c0, c1, c2, c3⟩ := k6.at4 HEL.out
    simp only [Addr.add_mid, Nat.zero_add] at c0 c1 c2 c3
    go_wp2
    exact ⟨rfl, rfl, Below.refl _ _⟩
   simp only [Act.put, sT, sS, sZ]
   refine GW.open rfl (fun hd hf => ?_) ?_
   ·have K := hid (hU.out.n11 (by decide) (by decide) (by decide) (by decide) (newA y (.cells #[.int .u64 (lim zz 0), .int .u64 (lim zz 1), .int .u64 (lim zz 2), .int .u64 (lim zz 3)] 24)) (HN12.out 10 (by decide) hf) (one_made y zz HZW.out))
    go_wp2
    exact ⟨rfl, K.out⟩
   simp only [Act.put, sT, sS, sZ]
   refine GW.open rfl (fun hd hf => ?_) ?_
   ·obtain ⟨b11, e11, k11⟩ := hU.out.g11 hf (hd 10 (by decide))
    rw [e11]
    obtain ⟨v', w', happ, hrow', _, hbel⟩ := append_words y w4.heap.size lv _ (hU.out.2.1 hf).1 (hU.out.base) _ [zz] k11 HLE.out
    have K := hid (hU.out.n12 (by decide) (by decide) (by decide) (by decide) (by cases e : f 12 with | false => rfl | true => exact absurd (Dn 12 e 11 (by decide)) (by rw [hf]; decide)) hbel hrow')
    clear hrow' hbel k11
    go_wp2_with (at_builtin; refine wpList_append_runW rfl (.tmp 28) (.tmp 38) 27 rfl _ _ _ rfl rfl happ ?_)
    exact ⟨rfl, K.out⟩
   simp only [Act.put, sT, sS, sZ]
   refine GW.open rfl (fun hd hf => ?_) ?_
   ·have K := hid (hU.out.n13 (by decide) (by decide) (by decide) (by decide) (hd 11 (by decide)))
    go_wp2
    exact ⟨rfl, K.out⟩
   simp only [Act.put, sT, sS, sZ]
   refine GW.nil (fun hall => ?_)
   obtain ⟨e13, hr12, hb12⟩ := hU.out.end (hall 11 (by omega)) (hall 12 (by omega))
   rw [e13]
   have HR3 := hid hr12
   have HQ3 := hid hb12
   clear hr12 hb12 e13 hU qy HN12 Dn hall
   generalize g 5 = g6 at *
   generalize g 8 = g9 at *
   generalize g 10 = g11 at *
   generalize g 11 = g12 at *
   clear g
   go_wp2_with fail
   go_roundw
   case rel => exact ⟨k + 1, by have := HKN.out; omega, by simp, by rw [HSU.out]; exact HR3.out, HQ3.out⟩
   case measure => have := HKN.out; have := HN.out; simp [intOf]; omega
  ·obtain rfl : k = n := by omega
   have hrow := HROW.out
   rw [JhL.out] at hrow
   have HLA := hid (hrow.keys (fun y hy => by
    rw [← JhL.out] at hy
    obtain ⟨i, hi, rfl⟩ := List.mem_map.1 hy
    exact po_lt a b i Va.out Vb.out (by have := List.mem_range.1 hi; have := HN.out; omega)))
   have HLN := hid (show L.length = k by rw [← JhL.out, poL_length])
   have hkn : ¬ (k : Int) < (k : Int) := by omega
   have k0 : (0 : Int) ≤ (k : Int) := by omega
   have k1 : (k : Int) ≤ 25 := by have := HN.out; omega
   clear hk hlt
   obtain ⟨V, hV⟩ : ∃ V, V = wp := ⟨_, rfl⟩
   subst hV
   have q := HQ.out
   replace HTB := hid (HTB.out.later q)
   replace QQ := hid (QQ.out.trans (q.mono QQ.out.size))
   clear q HROW HQ HL0 hrow HA HB
   obtain ⟨la, lc, hlv, hlc, _⟩ := HLA.out.shape
   rw [HLN.out] at hlv hlc
   subst hlv
   go_wp2_with fail
   refine (do_any _ HTB.out _ L x HX.out HLA.out (by rw [HLN.out]; have := HN.out; omega)).mono ?_
   rintro _ w5 ⟨v, rfl, h, q⟩
   replace HTB := hid (HTB.out.later q)
   replace HLA := hid (HLA.out.later q)
   replace QQ := hid (QQ.out.trans (q.mono QQ.out.size))
   clear q
   rw [Jhd1.out]
   rw [Jhd2.out] at h
   obtain ⟨ta, tc, hv, htc, _⟩ := h.shape
   rw [Jhtl.out] at hv htc
   subst hv
   have HTL := hid h
   clear h
   go_wp2_with fail
   refine (HIN.out _).mono ?_
   rintro _ w6 ⟨rfl, q6⟩
   replace HTB := hid (HTB.out.later q6)
   replace HLA := hid (HLA.out.later q6)
   replace HTL := hid (HTL.out.later q6)
   replace QQ := hid (QQ.out.trans (q6.mono QQ.out.size))
   clear q6
   have ZI := Has.new w6 37 #[.string ⟨#[]⟩, .int .i64 0, .int .i64 0, .int .i64 0]
   have zi0 := ZI.cell 0 _ rfl
   have yi0 := ZI.frozen 0
   have zi1 := ZI.cell 1 _ rfl
   have yi1 := ZI.frozen 1
   have zi2 := ZI.cell 2 _ rfl
   have yi2 := ZI.frozen 2
   have zi3 := ZI.cell 3 _ rfl
   have yi3 := ZI.frozen 3
   clear ZI
   have q7 := newA w6 (.cells #[.string sb, .int .i64 (po : Int), .int .i64 (pu : Int), .int .i64 (ga : Int)] 37)
   have HIt := Has.new w6 37 #[.string sb, .int .i64 (po : Int), .int .i64 (pu : Int), .int .i64 (ga : Int)]
   try simp only [World.size_alloc] at HIt
   have HI := hid HIt
   clear HIt
   replace HTB := hid (HTB.out.later q7)
   replace HLA := hid (HLA.out.later q7)
   replace HTL := hid (HTL.out.later q7)
   replace QQ := hid (QQ.out.trans (q7.mono QQ.out.size))
   clear q7
   rcases HK.out with ⟨hc0, htl, hcs⟩ | ⟨rfl, rfl, htk, hst1, hst2, hsum, hcs⟩
   ·have HTS := HTL
    rw [htl] at HTS
    have i1 := HI.out.cell 1 _ rfl
    rcases hcs with ⟨rfl, rfl⟩ | ⟨rfl, rfl, hlt⟩
    ·clear hc0 htl
     go_wp2_with fail
     refine (same_words _ _ _ L L HTS.out HLA.out).mono ?_
     rintro _ wa ⟨rfl, qa⟩
     rw [show decide (L = L) = true by simp]
     have Q2 := hid (QQ.out.trans (qa.mono QQ.out.size))
     clear qa i1
     go_wp2_with fail
     refine (HIS.out _).mono ?_
     rintro _ wb ⟨rfl, rfl⟩
     go_wp2
     go_ret
     exact ⟨rfl, Q2.out⟩
    ·have hltI : (k : Int) < (po : Int) := by omega
     clear hc0 htl hlt
     go_wp2_with fail
     refine (same_words _ _ _ L L HTS.out HLA.out).mono ?_
     rintro _ wa ⟨rfl, qa⟩
     rw [show decide (L = L) = true by simp]
     have Q2 := hid (QQ.out.trans (qa.mono QQ.out.size))
     have i2 := (HI.out.later qa).cell 1 _ rfl
     clear qa i1
     go_wp2_with fail
     refine (HIS.out _).mono ?_
     rintro _ wb ⟨rfl, rfl⟩
     go_wp2_with fail
     refine (HIS.out _).mono ?_
     rintro _ wc ⟨rfl, rfl⟩
     go_wp2
     go_ret
     exact ⟨rfl, Q2.out⟩
   ·have i1 := HI.out.cell 1 _ rfl
    have i2 := HI.out.cell 2 _ rfl
    have HST := hid (And.intro hst1 (And.intro hst2 hsum))
    have s0 : (0 : Int) ≤ (st : Int) := by omega
    have s1 : (st : Int) ≤ (tl : Int) := by omega
    have s2 : (st : Int) ≤ (k : Int) := by omega
    have s3 : ¬ (tl : Int) < (st : Int) := by omega
    have p0 : (0 : Int) ≤ (po : Int) := by omega
    have p1 : (po : Int) ≤ 100 := by have := HB24.out.2.1; omega
    have p2 : (0 : Int) ≤ (pu : Int) := by omega
    have p3 : (pu : Int) ≤ 100 := by have := HB24.out.2.2; omega
    have t0 : (0 : Int) ≤ (tl : Int) := by omega
    have t1 : (tl : Int) ≤ 100 := by have := HB24.out.1; omega
    have HTT := hid (HTL.out.take st (by omega))
    have HLT := hid (HLA.out.take st (by rw [← HLN.out] at hst1; omega))
    rw [htk] at HTT
    have esum : (k : Int) - (po : Int) + (pu : Int) = (tl : Int) := by omega
    have hsc1 : st ≤ tc := by omega
    have hsc2 : st ≤ lc := by omega
    clear hst1 hst2 hsum htk
    rcases hcs with ⟨hx, he⟩ | ⟨hx, hcs⟩
    ·have h128 : ¬ (x : Int) ≥ 128 := by omega
     have h128' : ¬ (128 : Int) ≤ (x : Int) := by omega
     obtain ⟨df, hdf⟩ : ∃ df : Int, (k : Int) - (po : Int) = df := ⟨_, rfl⟩
     have hdf2 : df = (st : Int) := by omega
     subst hdf2
     have esum2 : (st : Int) + (pu : Int) = (tl : Int) := by omega
     clear hx he esum
     go_wp2_with fail
     have i1x := fun x : Ext (w6.alloc (.cells #[.string sb, .int .i64 (po : Int), .int .i64 (pu : Int), .int .i64 (ga : Int)] 37)) => (HI.out.later x.below).cell 1 _ rfl
     have i2x := fun x : Ext (w6.alloc (.cells #[.string sb, .int .i64 (po : Int), .int .i64 (pu : Int), .int .i64 (ga : Int)] 37)) => (HI.out.later x.below).cell 2 _ rfl
     have hisx := fun z : Ext ((w6.alloc (.cells #[.string sb, .int .i64 (po : Int), .int .i64 (pu : Int), .int .i64 (ga : Int)] 37))) => (HIS.out z.w).mono fun e w' (h : e = .returned (.bool true) ∧ w' = z.w) => (⟨h.1, z, h.2⟩ : e = .returned (.bool true) ∧ ∃ y : Ext ((w6.alloc (.cells #[.string sb, .int .i64 (po : Int), .int .i64 (pu : Int), .int .i64 (ga : Int)] 37))), w' = y.w)
     have S1 := fun z : Ext ((w6.alloc (.cells #[.string sb, .int .i64 (po : Int), .int .i64 (pu : Int), .int .i64 (ga : Int)] 37))) => (same_words z.w _ _ (L.take st) (L.take st) (HTT.out.later z.below) (HLT.out.later z.below)).mono fun e w' (h : e = .returned (.bool (decide (L.take st = L.take st))) ∧ Below z.w.heap.size z.w w') => (⟨h.1.trans (by simp), ⟨w', z.below.trans (h.2.mono z.below.size)⟩, rfl⟩ : e = .returned (.bool true) ∧ ∃ y : Ext ((w6.alloc (.cells #[.string sb, .int .i64 (po : Int), .int .i64 (pu : Int), .int .i64 (ga : Int)] 37))), w' = y.w)
     clear i1 i2
     have hmin := hid (show min (st : Int) (tl : Int) = (st : Int) by omega)
     try simp only [List.append]
     refine wp_region_quick (C := Grows ((w6.alloc (.cells #[.string sb, .int .i64 (po : Int), .int .i64 (pu : Int), .int .i64 (ga : Int)] 37)))) (by kernel_rfl) (by kernel_rfl) (by kernel_rfl) (grows_refl ((w6.alloc (.cells #[.string sb, .int .i64 (po : Int), .int .i64 (pu : Int), .int .i64 (ga : Int)] 37)))) ?_
     repeat (go_big_quiet_step (first | (with_reducible exact hisx _) | (with_reducible exact S1 _)))
     try simp only [hmin.out, Int.toNat_natCast]
     repeat (go_big_quiet_step (first | (with_reducible exact hisx _) | (with_reducible exact S1 _)))
     refine wpQuiet_nil ?_
     rintro _ ⟨z, rfl⟩
     go_wp2
     go_ret
     exact ⟨rfl, QQ.out.trans (z.below.mono QQ.out.size)⟩
    ·have h128 : (x : Int) ≥ 128 := by omega
     have h128' : (128 : Int) ≤ (x : Int) := by omega
     have hmx1 : max ((k : Int) - 17) 0 = (st : Int) := by omega
     clear hcs hx
     go_wp2_with fail
     have i1x := fun x : Ext (w6.alloc (.cells #[.string sb, .int .i64 (po : Int), .int .i64 (pu : Int), .int .i64 (ga : Int)] 37)) => (HI.out.later x.below).cell 1 _ rfl
     have i2x := fun x : Ext (w6.alloc (.cells #[.string sb, .int .i64 (po : Int), .int .i64 (pu : Int), .int .i64 (ga : Int)] 37)) => (HI.out.later x.below).cell 2 _ rfl
     have hisx := fun z : Ext ((w6.alloc (.cells #[.string sb, .int .i64 (po : Int), .int .i64 (pu : Int), .int .i64 (ga : Int)] 37))) => (HIS.out z.w).mono fun e w' (h : e = .returned (.bool true) ∧ w' = z.w) => (⟨h.1, z, h.2⟩ : e = .returned (.bool true) ∧ ∃ y : Ext ((w6.alloc (.cells #[.string sb, .int .i64 (po : Int), .int .i64 (pu : Int), .int .i64 (ga : Int)] 37))), w' = y.w)
     have S1 := fun z : Ext ((w6.alloc (.cells #[.string sb, .int .i64 (po : Int), .int .i64 (pu : Int), .int .i64 (ga : Int)] 37))) => (same_words z.w _ _ (L.take st) (L.take st) (HTT.out.later z.below) (HLT.out.later z.below)).mono fun e w' (h : e = .returned (.bool (decide (L.take st = L.take st))) ∧ Below z.w.heap.size z.w w') => (⟨h.1.trans (by simp), ⟨w', z.below.trans (h.2.mono z.below.size)⟩, rfl⟩ : e = .returned (.bool true) ∧ ∃ y : Ext ((w6.alloc (.cells #[.string sb, .int .i64 (po : Int), .int .i64 (pu : Int), .int .i64 (ga : Int)] 37))), w' = y.w)
     clear i1 i2
     have hmin := hid (show min (st : Int) (tl : Int) = (st : Int) by omega)
     try simp only [List.append]
     refine wp_region_quick (C := Grows ((w6.alloc (.cells #[.string sb, .int .i64 (po : Int), .int .i64 (pu : Int), .int .i64 (ga : Int)] 37)))) (by kernel_rfl) (by kernel_rfl) (by kernel_rfl) (grows_refl ((w6.alloc (.cells #[.string sb, .int .i64 (po : Int), .int .i64 (pu : Int), .int .i64 (ga : Int)] 37)))) ?_
     repeat (go_big_quiet_step (first | (with_reducible exact hisx _) | (with_reducible exact S1 _)))
     try simp only [hmin.out, Int.toNat_natCast]
     repeat (go_big_quiet_step (first | (with_reducible exact hisx _) | (with_reducible exact S1 _)))
     refine wpQuiet_nil ?_
     rintro _ ⟨z, rfl⟩
     go_wp2
     go_ret
     exact ⟨rfl, QQ.out.trans (z.below.mono QQ.out.size)⟩
end
section
open Go Go.RowKit
def popsN (x : Nat) : Nat := if x < 128 then takesN x else if x < 144 then x - 127 else x - 142
def pushM (x : Nat) : Nat := if x < 128 then (if x = 80 then 0 else 1) else if x < 144 then x - 126 else x - 142
theorem pops_info : ∀ x, x < 256 → isOp x = true → (opI x).map (fun i => (i.2.1, i.2.2.1)) = some (popsN x, pushM x) := by decide +kernel
theorem pops_small : ∀ x, x < 256 → ((opI x).getD noInf).2.1 ≤ 100 ∧ ((opI x).getD noInf).2.2.1 ≤ 100 := by decide +kernel
theorem madeL_length (x : Nat) (hx : x < 128) (t : List Nat) : (madeL x t).length = pushM x := by
 unfold madeL pushM
 rw [if_pos hx]
 split
 ·rfl
 ·split
  ·rfl
  ·split <;> rfl
theorem take_set_out (l : List Nat) (i st v : Nat) (h : st ≤ i) : (l.set i v).take st = l.take st := by
 rw [List.take_set, List.set_eq_of_length_le (by rw [List.length_take]; omega)]
theorem pops_model (x n : Nat) (L : List Nat) (hx : x < 256) (hL : L.length = n) (hn : n < 25) : ∃ tl st, (doL x L).length = tl ∧ tl ≤ 100 ∧
  ((doE x L ≠ 0 ∧ doL x L = L ∧ ((isOp x = false ∧ doE x L = 42) ∨ (isOp x = true ∧ doE x L = 40 ∧ n < popsN x))) ∨ (doE x L = 0 ∧ isOp x = true ∧ (doL x L).take st = L.take st ∧ st ≤ n ∧ st ≤ tl ∧ tl + popsN x = n + pushM x ∧ ((x < 128 ∧ st + popsN x = n) ∨ (128 ≤ x ∧ ((n < 17 ∧ st = 0) ∨ (17 ≤ n ∧ st + 17 = n)))))) := by
 by_cases hi : isOp x = true
 ·by_cases h1 : 144 ≤ x
  ·obtain ⟨k, hk⟩ : ∃ k : Nat, x = 143 + k ∧ 1 ≤ k ∧ k ≤ 16 := ⟨x - 143, by unfold isOp at hi; have := of_decide_eq_true hi; omega⟩
   obtain ⟨rfl, hk1, hk2⟩ := hk
   have e : ((143 + k : Nat) : Int) - 144 + 1 = (k : Int) := by omega
   have hE : doE (143 + k) L = askN L.length (k : Int) 1 1 := by unfold doE; rw [hi, if_neg (by decide), if_pos h1, e]
   have hD : doL (143 + k) L = swpL L (k : Int) := by unfold doL; rw [hi, if_neg (by decide), if_pos h1, e]
   have hp : popsN (143 + k) = k + 1 := by unfold popsN; rw [if_neg (by omega), if_neg (by omega)]; omega
   have hq : pushM (143 + k) = k + 1 := by unfold pushM; rw [if_neg (by omega), if_neg (by omega)]; omega
   rw [hE, hD, hp, hq, swpL_length, hL]
   by_cases hc : k + 1 ≤ n
   ·have ha : askN n (k : Int) 1 1 = 0 := ask_in (by omega) (by omega) (by omega)
    refine ⟨n, n - 17, rfl, by omega, .inr ⟨ha, hi, ?_, by omega, by omega, rfl, .inr ⟨by omega, by omega⟩⟩⟩
    unfold swpL
    rw [hL, ha, if_pos rfl, Int.toNat_natCast, take_set_out _ _ _ _ (by omega), take_set_out _ _ _ _ (by omega)]
   ·have ha : askN n (k : Int) 1 1 = 40 := ask_out (by omega) (by omega) (by omega)
    refine ⟨n, 0, rfl, by omega, .inl ⟨by rw [ha]; decide, ?_, .inr ⟨hi, ha, by omega⟩⟩⟩
    unfold swpL
    rw [hL, ha, if_neg (by decide)]
  ·by_cases h2 : 128 ≤ x
   ·obtain ⟨k, hk⟩ : ∃ k : Nat, x = 127 + k ∧ 1 ≤ k ∧ k ≤ 16 := ⟨x - 127, by omega⟩
    obtain ⟨rfl, hk1, hk2⟩ := hk
    have e : ((127 + k : Nat) : Int) - 128 + 1 = (k : Int) := by omega
    have hE : doE (127 + k) L = dupE L (k : Int) := by unfold doE; rw [hi, if_neg (by decide), if_neg h1, if_pos h2, e]
    have hD : doL (127 + k) L = dupL L (k : Int) := by unfold doL; rw [hi, if_neg (by decide), if_neg h1, if_pos h2, e]
    have hp : popsN (127 + k) = k := by unfold popsN; rw [if_neg (by omega), if_pos (by omega)]; omega
    have hq : pushM (127 + k) = k + 1 := by unfold pushM; rw [if_neg (by omega), if_pos (by omega)]; omega
    rw [hE, hD, hp, hq]
    by_cases hc : k ≤ n
    ·have ha : askN L.length (k : Int) 1 0 = 0 := ask_in (by omega) (by omega) (by omega)
     have h3 : dupE L (k : Int) = 0 := by unfold dupE; rw [ha, if_pos rfl]; exact pushE_ok (by simp; omega)
     have h4 : dupL L (k : Int) = L ++ [topW L k] := by unfold dupL; rw [ha, if_pos rfl]; exact pushL_ok (by simp; omega)
     rw [h3, h4]
     refine ⟨n + 1, n - 17, by simp [hL], by omega, .inr ⟨rfl, hi, ?_, by omega, by omega, by omega, .inr ⟨by omega, by omega⟩⟩⟩
     rw [List.take_append_of_le_length (by omega)]
    ·have ha : askN L.length (k : Int) 1 0 = 40 := ask_out (by omega) (by omega) (by omega)
     have h3 : dupE L (k : Int) = 40 := by unfold dupE; rw [ha, if_neg (by decide)]
     have h4 : dupL L (k : Int) = L := by unfold dupL; rw [ha, if_neg (by decide)]
     rw [h3, h4]
     exact ⟨n, 0, hL, by omega, .inl ⟨by decide, rfl, .inr ⟨hi, rfl, by omega⟩⟩⟩
   ·have hE : doE x L = askN L.length (takesN x) 0 0 := by unfold doE; rw [hi, if_neg (by decide), if_neg h1, if_neg h2]
    have hp : popsN x = takesN x := by unfold popsN; rw [if_pos (by omega)]
    by_cases hc : takesN x ≤ n
    ·obtain ⟨e1, e2⟩ := do_made x L (by omega) hi (by omega) (by omega)
     rw [e1, e2, hp, hL]
     have hm := madeL_length x (by omega) ((List.range (takesN x)).map (nthW L))
     refine ⟨_, n - takesN x, rfl, ?_, .inr ⟨rfl, hi, ?_, by omega, ?_, ?_, .inl ⟨by omega, by omega⟩⟩⟩
     ·rw [List.length_append, hm, List.length_take]
      unfold pushM
      rw [if_pos (by omega)]
      split <;> omega
     ·rw [List.take_append_of_le_length (by rw [List.length_take]; omega), List.take_take, Nat.min_self]
     ·rw [List.length_append, List.length_take]
      omega
     ·rw [List.length_append, hm, List.length_take]
      omega
    ·have ha : askN L.length (takesN x) 0 0 = 40 := ask_out (by omega) (by omega) (by omega)
     have hD : doL x L = L := by unfold doL; rw [hi, if_neg (by decide), if_neg h1, if_neg h2, ha, if_neg (by decide)]
     rw [hE, hD, hp, ha]
     exact ⟨n, 0, hL, by omega, .inl ⟨by decide, rfl, .inr ⟨hi, rfl, by omega⟩⟩⟩
 ·have hf : isOp x = false := by simpa using hi
  have hE : doE x L = 42 := by unfold doE; rw [if_pos hf]
  have hD : doL x L = L := by unfold doL; rw [if_pos hf]
  rw [hE, hD]
  exact ⟨n, 0, hL, by omega, .inl ⟨by decide, rfl, .inl ⟨hf, rfl⟩⟩⟩
theorem computePops_any (W : World) (hT : Tab W) (op : Int) (a b : Nat) (dp : Int) (hop : I64 op) (ha : W256 a) (hb : W256 b) (hdp : I64 dp) : Calls Tryz.prog 4 #[.int .i64 op, wv a, wv b, .int .i64 dp] W fun e w' => e = .returned (.bool true) ∧ Below W.heap.size W w' := by
 have hr := pickN_range op 256 (by decide)
 obtain ⟨x, hp⟩ : ∃ x : Nat, pickN op 256 = (x : Int) := ⟨(pickN op 256).toNat, by omega⟩
 have hx : x < 256 := by omega
 have hr2 := pickN_range dp 25 (by decide)
 obtain ⟨n, hd⟩ : ∃ n : Nat, pickN dp 25 = (n : Int) := ⟨(pickN dp 25).toNat, by omega⟩
 have hn : n < 25 := by omega
 obtain ⟨tl, st, h1, h2, h3⟩ := pops_model x n (poL a b n) hx (poL_length a b n) hn
 obtain ⟨h4, h5⟩ := pops_small x hx
 refine pops_w W hT op dp a b x n _ _ _ tl st _ _ _ _ _ _ ha hb hop hdp hp hx hd hn rfl rfl rfl h1 (show lookV opI x = .tuple #[.agg #[.string ⟨((opI x).getD noInf).1.toArray⟩, .int .i64 (((opI x).getD noInf).2.1 : Int), .int .i64 (((opI x).getD noInf).2.2.1 : Int), .int .i64 (((opI x).getD noInf).2.2.2 : Int)], .bool (opI x).isSome] from rfl) rfl ⟨h2, h4, h5⟩ ?_
 rcases h3 with ⟨a1, a2, a3⟩ | ⟨a1, a2, a3, a4, a5, a6, a7⟩
 ·refine .inl ⟨a1, a2, ?_⟩
  rcases a3 with a3 | ⟨b1, b2, b3⟩
  ·exact .inl a3
  ·have := pops_info x hx b1
   rcases hv : opI x with _ | i
   ·rw [hv] at this; cases this
   ·rw [hv] at this
    injection this with this
    injection this with e1 e2
    refine .inr ⟨b1, b2, ?_⟩
    show n < i.2.1
    rw [e1]; exact b3
 ·have := pops_info x hx a2
  rcases hv : opI x with _ | i
  ·rw [hv] at this; cases this
  ·rw [hv] at this
   injection this with this
   injection this with e1 e2
   refine .inr ⟨a1, a2, a3, a4, a5, ?_, ?_⟩
   ·show tl + i.2.1 = n + i.2.2.1
    rw [e1, e2]; exact a6
   ·rcases a7 with ⟨b1, b2⟩ | b
    ·refine .inl ⟨b1, ?_⟩
     show st + i.2.1 = n
     rw [e1]; exact b2
    ·exact .inr b
end
end Go.Proofs.YtnkhmgmganejmaaGreatDoor
