/- Part. -/
import Derived.Test.YtnkhmgmganejmaaGreatDoorG21
set_option maxRecDepth 100000
set_option maxHeartbeats 16000000
namespace Go.Proofs.YtnkhmgmganejmaaGreatDoor
open Go Go.RowKit
attribute [local go_sem] Oper.semAt_some Grows wide_fn
def nmI (op : Nat) : Option Inf := if 96 ≤ op ∧ op ≤ 164 then none else opI op
def nmV (o : Int) : Value := lookV nmI o.toNat
theorem nm_none : ∀ op, op < 256 → op ∉ [0, 1, 2, 3, 4, 5, 6, 7, 8, 9, 10, 11, 16, 17, 18, 19, 20, 21, 22, 23, 24, 25, 26, 27, 28, 29, 32, 48, 49, 50, 51, 52, 53, 54, 55, 56, 57, 58, 59, 60, 61, 62, 63, 64, 65, 66, 67, 68, 69, 70, 71, 72, 80, 81, 82, 83, 84, 85, 86, 87, 88, 89, 90, 91, 95, 240, 241, 242, 243, 244, 245, 250, 253, 254, 255] → nmI op = none := by decide +kernel
theorem rnamed_walk (W : World) (op : Nat) (ho : op < 256) (o : Int) (hO : (op : Int) = o) : Calls Tryz.prog 28 #[.int .u8 o] W fun e w' => e = .returned (nmV o) ∧ Below W.heap.size W w' := by
 have R := Has.new W 37 #[.string ⟨#[]⟩, .int .i64 0, .int .i64 0, .int .i64 0]
 have c0 := R.cell 0 _ rfl
 have c1 := R.cell 1 _ rfl
 have c2 := R.cell 2 _ rfl
 have c3 := R.cell 3 _ rfl
 have z0 := R.frozen 0
 have z1 := R.frozen 1
 have z2 := R.frozen 2
 have z3 := R.frozen 3
 clear R
 have HO := hid (And.intro ho hO)
 obtain ⟨V, hV⟩ : ∃ V, nmV o = V := ⟨_, rfl⟩
 have HV := hid hV
 rw [hV]
 clear hO ho hV
 go_enter Tryz.func28, Tryz.ntmps28
 go_wp2
 ·rename_i hx
  refine bodyPost_ret (results_infB (.inr rfl) rfl rfl rfl (Has.new W _ _)) rfl ⟨?_, (Below.refl _ W).alloc (Nat.le_refl _) _⟩
  rw [← HV.out, show o = 0 from eq_of_beq hx]
  kernel_rfl
 ·rename_i hx
  refine bodyPost_ret (results_infB (.inr rfl) rfl rfl rfl (Has.new W _ _)) rfl ⟨?_, (Below.refl _ W).alloc (Nat.le_refl _) _⟩
  rw [← HV.out, show o = 1 from eq_of_beq hx]
  kernel_rfl
 ·rename_i hx
  refine bodyPost_ret (results_infB (.inr rfl) rfl rfl rfl (Has.new W _ _)) rfl ⟨?_, (Below.refl _ W).alloc (Nat.le_refl _) _⟩
  rw [← HV.out, show o = 2 from eq_of_beq hx]
  kernel_rfl
 ·rename_i hx
  refine bodyPost_ret (results_infB (.inr rfl) rfl rfl rfl (Has.new W _ _)) rfl ⟨?_, (Below.refl _ W).alloc (Nat.le_refl _) _⟩
  rw [← HV.out, show o = 3 from eq_of_beq hx]
  kernel_rfl
 ·rename_i hx
  refine bodyPost_ret (results_infB (.inr rfl) rfl rfl rfl (Has.new W _ _)) rfl ⟨?_, (Below.refl _ W).alloc (Nat.le_refl _) _⟩
  rw [← HV.out, show o = 4 from eq_of_beq hx]
  kernel_rfl
 ·rename_i hx
  refine bodyPost_ret (results_infB (.inr rfl) rfl rfl rfl (Has.new W _ _)) rfl ⟨?_, (Below.refl _ W).alloc (Nat.le_refl _) _⟩
  rw [← HV.out, show o = 5 from eq_of_beq hx]
  kernel_rfl
 ·rename_i hx
  refine bodyPost_ret (results_infB (.inr rfl) rfl rfl rfl (Has.new W _ _)) rfl ⟨?_, (Below.refl _ W).alloc (Nat.le_refl _) _⟩
  rw [← HV.out, show o = 6 from eq_of_beq hx]
  kernel_rfl
 ·rename_i hx
  refine bodyPost_ret (results_infB (.inr rfl) rfl rfl rfl (Has.new W _ _)) rfl ⟨?_, (Below.refl _ W).alloc (Nat.le_refl _) _⟩
  rw [← HV.out, show o = 7 from eq_of_beq hx]
  kernel_rfl
 ·rename_i hx
  refine bodyPost_ret (results_infB (.inr rfl) rfl rfl rfl (Has.new W _ _)) rfl ⟨?_, (Below.refl _ W).alloc (Nat.le_refl _) _⟩
  rw [← HV.out, show o = 8 from eq_of_beq hx]
  kernel_rfl
 ·rename_i hx
  refine bodyPost_ret (results_infB (.inr rfl) rfl rfl rfl (Has.new W _ _)) rfl ⟨?_, (Below.refl _ W).alloc (Nat.le_refl _) _⟩
  rw [← HV.out, show o = 9 from eq_of_beq hx]
  kernel_rfl
 ·rename_i hx
  refine bodyPost_ret (results_infB (.inr rfl) rfl rfl rfl (Has.new W _ _)) rfl ⟨?_, (Below.refl _ W).alloc (Nat.le_refl _) _⟩
  rw [← HV.out, show o = 10 from eq_of_beq hx]
  kernel_rfl
 ·rename_i hx
  refine bodyPost_ret (results_infB (.inr rfl) rfl rfl rfl (Has.new W _ _)) rfl ⟨?_, (Below.refl _ W).alloc (Nat.le_refl _) _⟩
  rw [← HV.out, show o = 11 from eq_of_beq hx]
  kernel_rfl
 ·rename_i hx
  refine bodyPost_ret (results_infB (.inr rfl) rfl rfl rfl (Has.new W _ _)) rfl ⟨?_, (Below.refl _ W).alloc (Nat.le_refl _) _⟩
  rw [← HV.out, show o = 16 from eq_of_beq hx]
  kernel_rfl
 ·rename_i hx
  refine bodyPost_ret (results_infB (.inr rfl) rfl rfl rfl (Has.new W _ _)) rfl ⟨?_, (Below.refl _ W).alloc (Nat.le_refl _) _⟩
  rw [← HV.out, show o = 17 from eq_of_beq hx]
  kernel_rfl
 ·rename_i hx
  refine bodyPost_ret (results_infB (.inr rfl) rfl rfl rfl (Has.new W _ _)) rfl ⟨?_, (Below.refl _ W).alloc (Nat.le_refl _) _⟩
  rw [← HV.out, show o = 18 from eq_of_beq hx]
  kernel_rfl
 ·rename_i hx
  refine bodyPost_ret (results_infB (.inr rfl) rfl rfl rfl (Has.new W _ _)) rfl ⟨?_, (Below.refl _ W).alloc (Nat.le_refl _) _⟩
  rw [← HV.out, show o = 19 from eq_of_beq hx]
  kernel_rfl
 ·rename_i hx
  refine bodyPost_ret (results_infB (.inr rfl) rfl rfl rfl (Has.new W _ _)) rfl ⟨?_, (Below.refl _ W).alloc (Nat.le_refl _) _⟩
  rw [← HV.out, show o = 20 from eq_of_beq hx]
  kernel_rfl
 ·rename_i hx
  refine bodyPost_ret (results_infB (.inr rfl) rfl rfl rfl (Has.new W _ _)) rfl ⟨?_, (Below.refl _ W).alloc (Nat.le_refl _) _⟩
  rw [← HV.out, show o = 21 from eq_of_beq hx]
  kernel_rfl
 ·rename_i hx
  refine bodyPost_ret (results_infB (.inr rfl) rfl rfl rfl (Has.new W _ _)) rfl ⟨?_, (Below.refl _ W).alloc (Nat.le_refl _) _⟩
  rw [← HV.out, show o = 22 from eq_of_beq hx]
  kernel_rfl
 ·rename_i hx
  refine bodyPost_ret (results_infB (.inr rfl) rfl rfl rfl (Has.new W _ _)) rfl ⟨?_, (Below.refl _ W).alloc (Nat.le_refl _) _⟩
  rw [← HV.out, show o = 23 from eq_of_beq hx]
  kernel_rfl
 ·rename_i hx
  refine bodyPost_ret (results_infB (.inr rfl) rfl rfl rfl (Has.new W _ _)) rfl ⟨?_, (Below.refl _ W).alloc (Nat.le_refl _) _⟩
  rw [← HV.out, show o = 24 from eq_of_beq hx]
  kernel_rfl
 ·rename_i hx
  refine bodyPost_ret (results_infB (.inr rfl) rfl rfl rfl (Has.new W _ _)) rfl ⟨?_, (Below.refl _ W).alloc (Nat.le_refl _) _⟩
  rw [← HV.out, show o = 25 from eq_of_beq hx]
  kernel_rfl
 ·rename_i hx
  refine bodyPost_ret (results_infB (.inr rfl) rfl rfl rfl (Has.new W _ _)) rfl ⟨?_, (Below.refl _ W).alloc (Nat.le_refl _) _⟩
  rw [← HV.out, show o = 26 from eq_of_beq hx]
  kernel_rfl
 ·rename_i hx
  refine bodyPost_ret (results_infB (.inr rfl) rfl rfl rfl (Has.new W _ _)) rfl ⟨?_, (Below.refl _ W).alloc (Nat.le_refl _) _⟩
  rw [← HV.out, show o = 27 from eq_of_beq hx]
  kernel_rfl
 ·rename_i hx
  refine bodyPost_ret (results_infB (.inr rfl) rfl rfl rfl (Has.new W _ _)) rfl ⟨?_, (Below.refl _ W).alloc (Nat.le_refl _) _⟩
  rw [← HV.out, show o = 28 from eq_of_beq hx]
  kernel_rfl
 ·rename_i hx
  refine bodyPost_ret (results_infB (.inr rfl) rfl rfl rfl (Has.new W _ _)) rfl ⟨?_, (Below.refl _ W).alloc (Nat.le_refl _) _⟩
  rw [← HV.out, show o = 29 from eq_of_beq hx]
  kernel_rfl
 ·rename_i hx
  refine bodyPost_ret (results_infB (.inr rfl) rfl rfl rfl (Has.new W _ _)) rfl ⟨?_, (Below.refl _ W).alloc (Nat.le_refl _) _⟩
  rw [← HV.out, show o = 32 from eq_of_beq hx]
  kernel_rfl
 ·rename_i hx
  refine bodyPost_ret (results_infB (.inr rfl) rfl rfl rfl (Has.new W _ _)) rfl ⟨?_, (Below.refl _ W).alloc (Nat.le_refl _) _⟩
  rw [← HV.out, show o = 48 from eq_of_beq hx]
  kernel_rfl
 ·rename_i hx
  refine bodyPost_ret (results_infB (.inr rfl) rfl rfl rfl (Has.new W _ _)) rfl ⟨?_, (Below.refl _ W).alloc (Nat.le_refl _) _⟩
  rw [← HV.out, show o = 49 from eq_of_beq hx]
  kernel_rfl
 ·rename_i hx
  refine bodyPost_ret (results_infB (.inr rfl) rfl rfl rfl (Has.new W _ _)) rfl ⟨?_, (Below.refl _ W).alloc (Nat.le_refl _) _⟩
  rw [← HV.out, show o = 50 from eq_of_beq hx]
  kernel_rfl
 ·rename_i hx
  refine bodyPost_ret (results_infB (.inr rfl) rfl rfl rfl (Has.new W _ _)) rfl ⟨?_, (Below.refl _ W).alloc (Nat.le_refl _) _⟩
  rw [← HV.out, show o = 51 from eq_of_beq hx]
  kernel_rfl
 ·rename_i hx
  refine bodyPost_ret (results_infB (.inr rfl) rfl rfl rfl (Has.new W _ _)) rfl ⟨?_, (Below.refl _ W).alloc (Nat.le_refl _) _⟩
  rw [← HV.out, show o = 52 from eq_of_beq hx]
  kernel_rfl
 ·rename_i hx
  refine bodyPost_ret (results_infB (.inr rfl) rfl rfl rfl (Has.new W _ _)) rfl ⟨?_, (Below.refl _ W).alloc (Nat.le_refl _) _⟩
  rw [← HV.out, show o = 53 from eq_of_beq hx]
  kernel_rfl
 ·rename_i hx
  refine bodyPost_ret (results_infB (.inr rfl) rfl rfl rfl (Has.new W _ _)) rfl ⟨?_, (Below.refl _ W).alloc (Nat.le_refl _) _⟩
  rw [← HV.out, show o = 54 from eq_of_beq hx]
  kernel_rfl
 ·rename_i hx
  refine bodyPost_ret (results_infB (.inr rfl) rfl rfl rfl (Has.new W _ _)) rfl ⟨?_, (Below.refl _ W).alloc (Nat.le_refl _) _⟩
  rw [← HV.out, show o = 55 from eq_of_beq hx]
  kernel_rfl
 ·rename_i hx
  refine bodyPost_ret (results_infB (.inr rfl) rfl rfl rfl (Has.new W _ _)) rfl ⟨?_, (Below.refl _ W).alloc (Nat.le_refl _) _⟩
  rw [← HV.out, show o = 56 from eq_of_beq hx]
  kernel_rfl
 ·rename_i hx
  refine bodyPost_ret (results_infB (.inr rfl) rfl rfl rfl (Has.new W _ _)) rfl ⟨?_, (Below.refl _ W).alloc (Nat.le_refl _) _⟩
  rw [← HV.out, show o = 57 from eq_of_beq hx]
  kernel_rfl
 ·rename_i hx
  refine bodyPost_ret (results_infB (.inr rfl) rfl rfl rfl (Has.new W _ _)) rfl ⟨?_, (Below.refl _ W).alloc (Nat.le_refl _) _⟩
  rw [← HV.out, show o = 58 from eq_of_beq hx]
  kernel_rfl
 ·rename_i hx
  refine bodyPost_ret (results_infB (.inr rfl) rfl rfl rfl (Has.new W _ _)) rfl ⟨?_, (Below.refl _ W).alloc (Nat.le_refl _) _⟩
  rw [← HV.out, show o = 59 from eq_of_beq hx]
  kernel_rfl
 ·rename_i hx
  refine bodyPost_ret (results_infB (.inr rfl) rfl rfl rfl (Has.new W _ _)) rfl ⟨?_, (Below.refl _ W).alloc (Nat.le_refl _) _⟩
  rw [← HV.out, show o = 60 from eq_of_beq hx]
  kernel_rfl
 ·rename_i hx
  refine bodyPost_ret (results_infB (.inr rfl) rfl rfl rfl (Has.new W _ _)) rfl ⟨?_, (Below.refl _ W).alloc (Nat.le_refl _) _⟩
  rw [← HV.out, show o = 61 from eq_of_beq hx]
  kernel_rfl
 ·rename_i hx
  refine bodyPost_ret (results_infB (.inr rfl) rfl rfl rfl (Has.new W _ _)) rfl ⟨?_, (Below.refl _ W).alloc (Nat.le_refl _) _⟩
  rw [← HV.out, show o = 62 from eq_of_beq hx]
  kernel_rfl
 ·rename_i hx
  refine bodyPost_ret (results_infB (.inr rfl) rfl rfl rfl (Has.new W _ _)) rfl ⟨?_, (Below.refl _ W).alloc (Nat.le_refl _) _⟩
  rw [← HV.out, show o = 63 from eq_of_beq hx]
  kernel_rfl
 ·rename_i hx
  refine bodyPost_ret (results_infB (.inr rfl) rfl rfl rfl (Has.new W _ _)) rfl ⟨?_, (Below.refl _ W).alloc (Nat.le_refl _) _⟩
  rw [← HV.out, show o = 64 from eq_of_beq hx]
  kernel_rfl
 ·rename_i hx
  refine bodyPost_ret (results_infB (.inr rfl) rfl rfl rfl (Has.new W _ _)) rfl ⟨?_, (Below.refl _ W).alloc (Nat.le_refl _) _⟩
  rw [← HV.out, show o = 65 from eq_of_beq hx]
  kernel_rfl
 ·rename_i hx
  refine bodyPost_ret (results_infB (.inr rfl) rfl rfl rfl (Has.new W _ _)) rfl ⟨?_, (Below.refl _ W).alloc (Nat.le_refl _) _⟩
  rw [← HV.out, show o = 66 from eq_of_beq hx]
  kernel_rfl
 ·rename_i hx
  refine bodyPost_ret (results_infB (.inr rfl) rfl rfl rfl (Has.new W _ _)) rfl ⟨?_, (Below.refl _ W).alloc (Nat.le_refl _) _⟩
  rw [← HV.out, show o = 67 from eq_of_beq hx]
  kernel_rfl
 ·rename_i hx
  refine bodyPost_ret (results_infB (.inr rfl) rfl rfl rfl (Has.new W _ _)) rfl ⟨?_, (Below.refl _ W).alloc (Nat.le_refl _) _⟩
  rw [← HV.out, show o = 68 from eq_of_beq hx]
  kernel_rfl
 ·rename_i hx
  refine bodyPost_ret (results_infB (.inr rfl) rfl rfl rfl (Has.new W _ _)) rfl ⟨?_, (Below.refl _ W).alloc (Nat.le_refl _) _⟩
  rw [← HV.out, show o = 69 from eq_of_beq hx]
  kernel_rfl
 ·rename_i hx
  refine bodyPost_ret (results_infB (.inr rfl) rfl rfl rfl (Has.new W _ _)) rfl ⟨?_, (Below.refl _ W).alloc (Nat.le_refl _) _⟩
  rw [← HV.out, show o = 70 from eq_of_beq hx]
  kernel_rfl
 ·rename_i hx
  refine bodyPost_ret (results_infB (.inr rfl) rfl rfl rfl (Has.new W _ _)) rfl ⟨?_, (Below.refl _ W).alloc (Nat.le_refl _) _⟩
  rw [← HV.out, show o = 71 from eq_of_beq hx]
  kernel_rfl
 ·rename_i hx
  refine bodyPost_ret (results_infB (.inr rfl) rfl rfl rfl (Has.new W _ _)) rfl ⟨?_, (Below.refl _ W).alloc (Nat.le_refl _) _⟩
  rw [← HV.out, show o = 72 from eq_of_beq hx]
  kernel_rfl
 ·rename_i hx
  refine bodyPost_ret (results_infB (.inr rfl) rfl rfl rfl (Has.new W _ _)) rfl ⟨?_, (Below.refl _ W).alloc (Nat.le_refl _) _⟩
  rw [← HV.out, show o = 80 from eq_of_beq hx]
  kernel_rfl
 ·rename_i hx
  refine bodyPost_ret (results_infB (.inr rfl) rfl rfl rfl (Has.new W _ _)) rfl ⟨?_, (Below.refl _ W).alloc (Nat.le_refl _) _⟩
  rw [← HV.out, show o = 81 from eq_of_beq hx]
  kernel_rfl
 ·rename_i hx
  refine bodyPost_ret (results_infB (.inr rfl) rfl rfl rfl (Has.new W _ _)) rfl ⟨?_, (Below.refl _ W).alloc (Nat.le_refl _) _⟩
  rw [← HV.out, show o = 82 from eq_of_beq hx]
  kernel_rfl
 ·rename_i hx
  refine bodyPost_ret (results_infB (.inr rfl) rfl rfl rfl (Has.new W _ _)) rfl ⟨?_, (Below.refl _ W).alloc (Nat.le_refl _) _⟩
  rw [← HV.out, show o = 83 from eq_of_beq hx]
  kernel_rfl
 ·rename_i hx
  refine bodyPost_ret (results_infB (.inr rfl) rfl rfl rfl (Has.new W _ _)) rfl ⟨?_, (Below.refl _ W).alloc (Nat.le_refl _) _⟩
  rw [← HV.out, show o = 84 from eq_of_beq hx]
  kernel_rfl
 ·rename_i hx
  refine bodyPost_ret (results_infB (.inr rfl) rfl rfl rfl (Has.new W _ _)) rfl ⟨?_, (Below.refl _ W).alloc (Nat.le_refl _) _⟩
  rw [← HV.out, show o = 85 from eq_of_beq hx]
  kernel_rfl
 ·rename_i hx
  refine bodyPost_ret (results_infB (.inr rfl) rfl rfl rfl (Has.new W _ _)) rfl ⟨?_, (Below.refl _ W).alloc (Nat.le_refl _) _⟩
  rw [← HV.out, show o = 86 from eq_of_beq hx]
  kernel_rfl
 ·rename_i hx
  refine bodyPost_ret (results_infB (.inr rfl) rfl rfl rfl (Has.new W _ _)) rfl ⟨?_, (Below.refl _ W).alloc (Nat.le_refl _) _⟩
  rw [← HV.out, show o = 87 from eq_of_beq hx]
  kernel_rfl
 ·rename_i hx
  refine bodyPost_ret (results_infB (.inr rfl) rfl rfl rfl (Has.new W _ _)) rfl ⟨?_, (Below.refl _ W).alloc (Nat.le_refl _) _⟩
  rw [← HV.out, show o = 88 from eq_of_beq hx]
  kernel_rfl
 ·rename_i hx
  refine bodyPost_ret (results_infB (.inr rfl) rfl rfl rfl (Has.new W _ _)) rfl ⟨?_, (Below.refl _ W).alloc (Nat.le_refl _) _⟩
  rw [← HV.out, show o = 89 from eq_of_beq hx]
  kernel_rfl
 ·rename_i hx
  refine bodyPost_ret (results_infB (.inr rfl) rfl rfl rfl (Has.new W _ _)) rfl ⟨?_, (Below.refl _ W).alloc (Nat.le_refl _) _⟩
  rw [← HV.out, show o = 90 from eq_of_beq hx]
  kernel_rfl
 ·rename_i hx
  refine bodyPost_ret (results_infB (.inr rfl) rfl rfl rfl (Has.new W _ _)) rfl ⟨?_, (Below.refl _ W).alloc (Nat.le_refl _) _⟩
  rw [← HV.out, show o = 91 from eq_of_beq hx]
  kernel_rfl
 ·rename_i hx
  refine bodyPost_ret (results_infB (.inr rfl) rfl rfl rfl (Has.new W _ _)) rfl ⟨?_, (Below.refl _ W).alloc (Nat.le_refl _) _⟩
  rw [← HV.out, show o = 95 from eq_of_beq hx]
  kernel_rfl
 ·rename_i hx
  refine bodyPost_ret (results_infB (.inr rfl) rfl rfl rfl (Has.new W _ _)) rfl ⟨?_, (Below.refl _ W).alloc (Nat.le_refl _) _⟩
  rw [← HV.out, show o = 240 from eq_of_beq hx]
  kernel_rfl
 ·rename_i hx
  refine bodyPost_ret (results_infB (.inr rfl) rfl rfl rfl (Has.new W _ _)) rfl ⟨?_, (Below.refl _ W).alloc (Nat.le_refl _) _⟩
  rw [← HV.out, show o = 241 from eq_of_beq hx]
  kernel_rfl
 ·rename_i hx
  refine bodyPost_ret (results_infB (.inr rfl) rfl rfl rfl (Has.new W _ _)) rfl ⟨?_, (Below.refl _ W).alloc (Nat.le_refl _) _⟩
  rw [← HV.out, show o = 242 from eq_of_beq hx]
  kernel_rfl
 ·rename_i hx
  refine bodyPost_ret (results_infB (.inr rfl) rfl rfl rfl (Has.new W _ _)) rfl ⟨?_, (Below.refl _ W).alloc (Nat.le_refl _) _⟩
  rw [← HV.out, show o = 243 from eq_of_beq hx]
  kernel_rfl
 ·rename_i hx
  refine bodyPost_ret (results_infB (.inr rfl) rfl rfl rfl (Has.new W _ _)) rfl ⟨?_, (Below.refl _ W).alloc (Nat.le_refl _) _⟩
  rw [← HV.out, show o = 244 from eq_of_beq hx]
  kernel_rfl
 ·rename_i hx
  refine bodyPost_ret (results_infB (.inr rfl) rfl rfl rfl (Has.new W _ _)) rfl ⟨?_, (Below.refl _ W).alloc (Nat.le_refl _) _⟩
  rw [← HV.out, show o = 245 from eq_of_beq hx]
  kernel_rfl
 ·rename_i hx
  refine bodyPost_ret (results_infB (.inr rfl) rfl rfl rfl (Has.new W _ _)) rfl ⟨?_, (Below.refl _ W).alloc (Nat.le_refl _) _⟩
  rw [← HV.out, show o = 250 from eq_of_beq hx]
  kernel_rfl
 ·rename_i hx
  refine bodyPost_ret (results_infB (.inr rfl) rfl rfl rfl (Has.new W _ _)) rfl ⟨?_, (Below.refl _ W).alloc (Nat.le_refl _) _⟩
  rw [← HV.out, show o = 253 from eq_of_beq hx]
  kernel_rfl
 ·rename_i hx
  refine bodyPost_ret (results_infB (.inr rfl) rfl rfl rfl (Has.new W _ _)) rfl ⟨?_, (Below.refl _ W).alloc (Nat.le_refl _) _⟩
  rw [← HV.out, show o = 254 from eq_of_beq hx]
  kernel_rfl
 ·rename_i hx
  refine bodyPost_ret (results_infB (.inr rfl) rfl rfl rfl (Has.new W _ _)) rfl ⟨?_, (Below.refl _ W).alloc (Nat.le_refl _) _⟩
  rw [← HV.out, show o = 255 from eq_of_beq hx]
  kernel_rfl
 ·have hn : nmI o.toNat = none := nm_none _ (by have := HO.out.1; have := HO.out.2; omega) (fun h => by
   have h0 : (0 : Int) ≤ o := by have := HO.out.2; omega
   have e : ((o.toNat : Nat) : Int) = o := Int.toNat_of_nonneg h0
   simp only [List.mem_cons, List.not_mem_nil, or_false] at h
   rcases h with h | h | h | h | h | h | h | h | h | h | h | h | h | h | h | h | h | h | h | h | h | h | h | h | h | h | h | h | h | h | h | h | h | h | h | h | h | h | h | h | h | h | h | h | h | h | h | h | h | h | h | h | h | h | h | h | h | h | h | h | h | h | h | h | h | h | h | h | h | h | h | h | h | h | h
   ·have e2 : o = 0 := by rw [h] at e; exact e.symm
    exact absurd (show (o == 0) = false by assumption) (by rw [e2]; decide)
   ·have e2 : o = 1 := by rw [h] at e; exact e.symm
    exact absurd (show (o == 1) = false by assumption) (by rw [e2]; decide)
   ·have e2 : o = 2 := by rw [h] at e; exact e.symm
    exact absurd (show (o == 2) = false by assumption) (by rw [e2]; decide)
   ·have e2 : o = 3 := by rw [h] at e; exact e.symm
    exact absurd (show (o == 3) = false by assumption) (by rw [e2]; decide)
   ·have e2 : o = 4 := by rw [h] at e; exact e.symm
    exact absurd (show (o == 4) = false by assumption) (by rw [e2]; decide)
   ·have e2 : o = 5 := by rw [h] at e; exact e.symm
    exact absurd (show (o == 5) = false by assumption) (by rw [e2]; decide)
   ·have e2 : o = 6 := by rw [h] at e; exact e.symm
    exact absurd (show (o == 6) = false by assumption) (by rw [e2]; decide)
   ·have e2 : o = 7 := by rw [h] at e; exact e.symm
    exact absurd (show (o == 7) = false by assumption) (by rw [e2]; decide)
   ·have e2 : o = 8 := by rw [h] at e; exact e.symm
    exact absurd (show (o == 8) = false by assumption) (by rw [e2]; decide)
   ·have e2 : o = 9 := by rw [h] at e; exact e.symm
    exact absurd (show (o == 9) = false by assumption) (by rw [e2]; decide)
   ·have e2 : o = 10 := by rw [h] at e; exact e.symm
    exact absurd (show (o == 10) = false by assumption) (by rw [e2]; decide)
   ·have e2 : o = 11 := by rw [h] at e; exact e.symm
    exact absurd (show (o == 11) = false by assumption) (by rw [e2]; decide)
   ·have e2 : o = 16 := by rw [h] at e; exact e.symm
    exact absurd (show (o == 16) = false by assumption) (by rw [e2]; decide)
   ·have e2 : o = 17 := by rw [h] at e; exact e.symm
    exact absurd (show (o == 17) = false by assumption) (by rw [e2]; decide)
   ·have e2 : o = 18 := by rw [h] at e; exact e.symm
    exact absurd (show (o == 18) = false by assumption) (by rw [e2]; decide)
   ·have e2 : o = 19 := by rw [h] at e; exact e.symm
    exact absurd (show (o == 19) = false by assumption) (by rw [e2]; decide)
   ·have e2 : o = 20 := by rw [h] at e; exact e.symm
    exact absurd (show (o == 20) = false by assumption) (by rw [e2]; decide)
   ·have e2 : o = 21 := by rw [h] at e; exact e.symm
    exact absurd (show (o == 21) = false by assumption) (by rw [e2]; decide)
   ·have e2 : o = 22 := by rw [h] at e; exact e.symm
    exact absurd (show (o == 22) = false by assumption) (by rw [e2]; decide)
   ·have e2 : o = 23 := by rw [h] at e; exact e.symm
    exact absurd (show (o == 23) = false by assumption) (by rw [e2]; decide)
   ·have e2 : o = 24 := by rw [h] at e; exact e.symm
    exact absurd (show (o == 24) = false by assumption) (by rw [e2]; decide)
   ·have e2 : o = 25 := by rw [h] at e; exact e.symm
    exact absurd (show (o == 25) = false by assumption) (by rw [e2]; decide)
   ·have e2 : o = 26 := by rw [h] at e; exact e.symm
    exact absurd (show (o == 26) = false by assumption) (by rw [e2]; decide)
   ·have e2 : o = 27 := by rw [h] at e; exact e.symm
    exact absurd (show (o == 27) = false by assumption) (by rw [e2]; decide)
   ·have e2 : o = 28 := by rw [h] at e; exact e.symm
    exact absurd (show (o == 28) = false by assumption) (by rw [e2]; decide)
   ·have e2 : o = 29 := by rw [h] at e; exact e.symm
    exact absurd (show (o == 29) = false by assumption) (by rw [e2]; decide)
   ·have e2 : o = 32 := by rw [h] at e; exact e.symm
    exact absurd (show (o == 32) = false by assumption) (by rw [e2]; decide)
   ·have e2 : o = 48 := by rw [h] at e; exact e.symm
    exact absurd (show (o == 48) = false by assumption) (by rw [e2]; decide)
   ·have e2 : o = 49 := by rw [h] at e; exact e.symm
    exact absurd (show (o == 49) = false by assumption) (by rw [e2]; decide)
   ·have e2 : o = 50 := by rw [h] at e; exact e.symm
    exact absurd (show (o == 50) = false by assumption) (by rw [e2]; decide)
   ·have e2 : o = 51 := by rw [h] at e; exact e.symm
    exact absurd (show (o == 51) = false by assumption) (by rw [e2]; decide)
   ·have e2 : o = 52 := by rw [h] at e; exact e.symm
    exact absurd (show (o == 52) = false by assumption) (by rw [e2]; decide)
   ·have e2 : o = 53 := by rw [h] at e; exact e.symm
    exact absurd (show (o == 53) = false by assumption) (by rw [e2]; decide)
   ·have e2 : o = 54 := by rw [h] at e; exact e.symm
    exact absurd (show (o == 54) = false by assumption) (by rw [e2]; decide)
   ·have e2 : o = 55 := by rw [h] at e; exact e.symm
    exact absurd (show (o == 55) = false by assumption) (by rw [e2]; decide)
   ·have e2 : o = 56 := by rw [h] at e; exact e.symm
    exact absurd (show (o == 56) = false by assumption) (by rw [e2]; decide)
   ·have e2 : o = 57 := by rw [h] at e; exact e.symm
    exact absurd (show (o == 57) = false by assumption) (by rw [e2]; decide)
   ·have e2 : o = 58 := by rw [h] at e; exact e.symm
    exact absurd (show (o == 58) = false by assumption) (by rw [e2]; decide)
   ·have e2 : o = 59 := by rw [h] at e; exact e.symm
    exact absurd (show (o == 59) = false by assumption) (by rw [e2]; decide)
   ·have e2 : o = 60 := by rw [h] at e; exact e.symm
    exact absurd (show (o == 60) = false by assumption) (by rw [e2]; decide)
   ·have e2 : o = 61 := by rw [h] at e; exact e.symm
    exact absurd (show (o == 61) = false by assumption) (by rw [e2]; decide)
   ·have e2 : o = 62 := by rw [h] at e; exact e.symm
    exact absurd (show (o == 62) = false by assumption) (by rw [e2]; decide)
   ·have e2 : o = 63 := by rw [h] at e; exact e.symm
    exact absurd (show (o == 63) = false by assumption) (by rw [e2]; decide)
   ·have e2 : o = 64 := by rw [h] at e; exact e.symm
    exact absurd (show (o == 64) = false by assumption) (by rw [e2]; decide)
   ·have e2 : o = 65 := by rw [h] at e; exact e.symm
    exact absurd (show (o == 65) = false by assumption) (by rw [e2]; decide)
   ·have e2 : o = 66 := by rw [h] at e; exact e.symm
    exact absurd (show (o == 66) = false by assumption) (by rw [e2]; decide)
   ·have e2 : o = 67 := by rw [h] at e; exact e.symm
    exact absurd (show (o == 67) = false by assumption) (by rw [e2]; decide)
   ·have e2 : o = 68 := by rw [h] at e; exact e.symm
    exact absurd (show (o == 68) = false by assumption) (by rw [e2]; decide)
   ·have e2 : o = 69 := by rw [h] at e; exact e.symm
    exact absurd (show (o == 69) = false by assumption) (by rw [e2]; decide)
   ·have e2 : o = 70 := by rw [h] at e; exact e.symm
    exact absurd (show (o == 70) = false by assumption) (by rw [e2]; decide)
   ·have e2 : o = 71 := by rw [h] at e; exact e.symm
    exact absurd (show (o == 71) = false by assumption) (by rw [e2]; decide)
   ·have e2 : o = 72 := by rw [h] at e; exact e.symm
    exact absurd (show (o == 72) = false by assumption) (by rw [e2]; decide)
   ·have e2 : o = 80 := by rw [h] at e; exact e.symm
    exact absurd (show (o == 80) = false by assumption) (by rw [e2]; decide)
   ·have e2 : o = 81 := by rw [h] at e; exact e.symm
    exact absurd (show (o == 81) = false by assumption) (by rw [e2]; decide)
   ·have e2 : o = 82 := by rw [h] at e; exact e.symm
    exact absurd (show (o == 82) = false by assumption) (by rw [e2]; decide)
   ·have e2 : o = 83 := by rw [h] at e; exact e.symm
    exact absurd (show (o == 83) = false by assumption) (by rw [e2]; decide)
   ·have e2 : o = 84 := by rw [h] at e; exact e.symm
    exact absurd (show (o == 84) = false by assumption) (by rw [e2]; decide)
   ·have e2 : o = 85 := by rw [h] at e; exact e.symm
    exact absurd (show (o == 85) = false by assumption) (by rw [e2]; decide)
   ·have e2 : o = 86 := by rw [h] at e; exact e.symm
    exact absurd (show (o == 86) = false by assumption) (by rw [e2]; decide)
   ·have e2 : o = 87 := by rw [h] at e; exact e.symm
    exact absurd (show (o == 87) = false by assumption) (by rw [e2]; decide)
   ·have e2 : o = 88 := by rw [h] at e; exact e.symm
    exact absurd (show (o == 88) = false by assumption) (by rw [e2]; decide)
   ·have e2 : o = 89 := by rw [h] at e; exact e.symm
    exact absurd (show (o == 89) = false by assumption) (by rw [e2]; decide)
   ·have e2 : o = 90 := by rw [h] at e; exact e.symm
    exact absurd (show (o == 90) = false by assumption) (by rw [e2]; decide)
   ·have e2 : o = 91 := by rw [h] at e; exact e.symm
    exact absurd (show (o == 91) = false by assumption) (by rw [e2]; decide)
   ·have e2 : o = 95 := by rw [h] at e; exact e.symm
    exact absurd (show (o == 95) = false by assumption) (by rw [e2]; decide)
   ·have e2 : o = 240 := by rw [h] at e; exact e.symm
    exact absurd (show (o == 240) = false by assumption) (by rw [e2]; decide)
   ·have e2 : o = 241 := by rw [h] at e; exact e.symm
    exact absurd (show (o == 241) = false by assumption) (by rw [e2]; decide)
   ·have e2 : o = 242 := by rw [h] at e; exact e.symm
    exact absurd (show (o == 242) = false by assumption) (by rw [e2]; decide)
   ·have e2 : o = 243 := by rw [h] at e; exact e.symm
    exact absurd (show (o == 243) = false by assumption) (by rw [e2]; decide)
   ·have e2 : o = 244 := by rw [h] at e; exact e.symm
    exact absurd (show (o == 244) = false by assumption) (by rw [e2]; decide)
   ·have e2 : o = 245 := by rw [h] at e; exact e.symm
    exact absurd (show (o == 245) = false by assumption) (by rw [e2]; decide)
   ·have e2 : o = 250 := by rw [h] at e; exact e.symm
    exact absurd (show (o == 250) = false by assumption) (by rw [e2]; decide)
   ·have e2 : o = 253 := by rw [h] at e; exact e.symm
    exact absurd (show (o == 253) = false by assumption) (by rw [e2]; decide)
   ·have e2 : o = 254 := by rw [h] at e; exact e.symm
    exact absurd (show (o == 254) = false by assumption) (by rw [e2]; decide)
   ·have e2 : o = 255 := by rw [h] at e; exact e.symm
    exact absurd (show (o == 255) = false by assumption) (by rw [e2]; decide)
   )
  refine bodyPost_ret (results_infB (.inr rfl) rfl rfl rfl (Has.new W _ _)) rfl ⟨?_, (Below.refl _ W).alloc (Nat.le_refl _) _⟩
  rw [← HV.out]
  unfold nmV lookV
  rw [hn]
  rfl
theorem rnamed_any (W : World) (op : Nat) (ho : op < 256) : Calls Tryz.prog 28 #[.int .u8 (op : Int)] W fun e w' => e = .returned (lookV nmI op) ∧ Below W.heap.size W w' := rnamed_walk W op ho _ rfl
end Go.Proofs.YtnkhmgmganejmaaGreatDoor
