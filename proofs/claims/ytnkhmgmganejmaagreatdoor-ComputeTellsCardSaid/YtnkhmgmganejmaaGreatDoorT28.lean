/- Part. -/
import Derived.Test.YtnkhmgmganejmaaGreatDoorT20
import Derived.RangeFuncBox
import Derived.Test.YtnkhmgmganejmaaGreatDoorT18
set_option maxRecDepth 100000
set_option maxHeartbeats 16000000
namespace Go.Proofs.YtnkhmgmganejmaaGreatDoor
section
open Go Go.RowKit
attribute [local go_sem] Oper.semAt_some Grows wide_fn
theorem no16 {p : Prop} {o : Int} (k : Int) (e : o = k) (h : (o == k) = false) : p := absurd h (by rw [e]; simp)
def nmI (op : Nat) : Option Inf := if 96 ≤ op ∧ op ≤ 164 then none else opI op
def nmV (o : Int) : Value := lookV nmI o.toNat
theorem nm_none : ∀ op, op < 256 → op ∉ [0, 1, 2, 3, 4, 5, 6, 7, 8, 9, 10, 11, 16, 17, 18, 19, 20, 21, 22, 23, 24, 25, 26, 27, 28, 29, 32, 48, 49, 50, 51, 52, 53, 54, 55, 56, 57, 58, 59, 60, 61, 62, 63, 64, 65, 66, 67, 68, 69, 70, 71, 72, 80, 81, 82, 83, 84, 85, 86, 87, 88, 89, 90, 91, 95, 240, 241, 242, 243, 244, 245, 250, 253, 254, 255] → nmI op = none := by decide +kernel
theorem rnamed_walk (W : World) (op : Nat) (ho : op < 256) (o : Int) (hO : (op : Int) = o) : Calls Tryz.prog 28 #[.int .u8 o] W fun e w' => e = .returned (nmV o) ∧ Below W.heap.size W w' := by
 have R := Has.new W 37 #[.string ⟨#[]⟩, .int .i64 0, .int .i64 0, .int .i64 0]
 obtain ⟨c0, c1, c2, c3⟩ := c4 R
 have z0 := R.frozen 0
 have z1 := R.frozen 1
 have z2 := R.frozen 2
 have z3 := R.frozen 3
 clear R
 have HO := hid (And.intro ho hO)
 obtain ⟨V, hV⟩ : ∃ V, nmV o = V := ⟨_, rfl⟩
 have HV := hid hV
 rw [hV]
 clear hO ho hV
 go_enter Tryz.func28, Tryz.ntmps28
 go_wp2
 ·rename_i hx
  refine bodyPost_ret (results_infB (.inr rfl) rfl rfl rfl (Has.new W _ _)) rfl ⟨?_, (Below.refl _ W).alloc (Nat.le_refl _) _⟩
  rw [← HV.out, show o = 0 from eq_of_beq hx]
  kernel_rfl
 ·rename_i hx
  refine bodyPost_ret (results_infB (.inr rfl) rfl rfl rfl (Has.new W _ _)) rfl ⟨?_, (Below.refl _ W).alloc (Nat.le_refl _) _⟩
  rw [← HV.out, show o = 1 from eq_of_beq hx]
  kernel_rfl
 ·rename_i hx
  refine bodyPost_ret (results_infB (.inr rfl) rfl rfl rfl (Has.new W _ _)) rfl ⟨?_, (Below.refl _ W).alloc (Nat.le_refl _) _⟩
  rw [← HV.out, show o = 2 from eq_of_beq hx]
  kernel_rfl
 ·rename_i hx
  refine bodyPost_ret (results_infB (.inr rfl) rfl rfl rfl (Has.new W _ _)) rfl ⟨?_, (Below.refl _ W).alloc (Nat.le_refl _) _⟩
  rw [← HV.out, show o = 3 from eq_of_beq hx]
  kernel_rfl
 ·rename_i hx
  refine bodyPost_ret (results_infB (.inr rfl) rfl rfl rfl (Has.new W _ _)) rfl ⟨?_, (Below.refl _ W).alloc (Nat.le_refl _) _⟩
  rw [← HV.out, show o = 4 from eq_of_beq hx]
  kernel_rfl
 ·rename_i hx
  refine bodyPost_ret (results_infB (.inr rfl) rfl rfl rfl (Has.new W _ _)) rfl ⟨?_, (Below.refl _ W).alloc (Nat.le_refl _) _⟩
  rw [← HV.out, show o = 5 from eq_of_beq hx]
  kernel_rfl
 ·rename_i hx
  refine bodyPost_ret (results_infB (.inr rfl) rfl rfl rfl (Has.new W _ _)) rfl ⟨?_, (Below.refl _ W).alloc (Nat.le_refl _) _⟩
  rw [← HV.out, show o = 6 from eq_of_beq hx]
  kernel_rfl
 ·rename_i hx
  refine bodyPost_ret (results_infB (.inr rfl) rfl rfl rfl (Has.new W _ _)) rfl ⟨?_, (Below.refl _ W).alloc (Nat.le_refl _) _⟩
  rw [← HV.out, show o = 7 from eq_of_beq hx]
  kernel_rfl
 ·rename_i hx
  refine bodyPost_ret (results_infB (.inr rfl) rfl rfl rfl (Has.new W _ _)) rfl ⟨?_, (Below.refl _ W).alloc (Nat.le_refl _) _⟩
  rw [← HV.out, show o = 8 from eq_of_beq hx]
  kernel_rfl
 ·rename_i hx
  refine bodyPost_ret (results_infB (.inr rfl) rfl rfl rfl (Has.new W _ _)) rfl ⟨?_, (Below.refl _ W).alloc (Nat.le_refl _) _⟩
  rw [← HV.out, show o = 9 from eq_of_beq hx]
  kernel_rfl
 ·rename_i hx
  refine bodyPost_ret (results_infB (.inr rfl) rfl rfl rfl (Has.new W _ _)) rfl ⟨?_, (Below.refl _ W).alloc (Nat.le_refl _) _⟩
  rw [← HV.out, show o = 10 from eq_of_beq hx]
  kernel_rfl
 ·rename_i hx
  refine bodyPost_ret (results_infB (.inr rfl) rfl rfl rfl (Has.new W _ _)) rfl ⟨?_, (Below.refl _ W).alloc (Nat.le_refl _) _⟩
  rw [← HV.out, show o = 11 from eq_of_beq hx]
  kernel_rfl
 ·rename_i hx
  refine bodyPost_ret (results_infB (.inr rfl) rfl rfl rfl (Has.new W _ _)) rfl ⟨?_, (Below.refl _ W).alloc (Nat.le_refl _) _⟩
  rw [← HV.out, show o = 16 from eq_of_beq hx]
  kernel_rfl
 ·rename_i hx
  refine bodyPost_ret (results_infB (.inr rfl) rfl rfl rfl (Has.new W _ _)) rfl ⟨?_, (Below.refl _ W).alloc (Nat.le_refl _) _⟩
  rw [← HV.out, show o = 17 from eq_of_beq hx]
  kernel_rfl
 ·rename_i hx
  refine bodyPost_ret (results_infB (.inr rfl) rfl rfl rfl (Has.new W _ _)) rfl ⟨?_, (Below.refl _ W).alloc (Nat.le_refl _) _⟩
  rw [← HV.out, show o = 18 from eq_of_beq hx]
  kernel_rfl
 ·rename_i hx
  refine bodyPost_ret (results_infB (.inr rfl) rfl rfl rfl (Has.new W _ _)) rfl ⟨?_, (Below.refl _ W).alloc (Nat.le_refl _) _⟩
  rw [← HV.out, show o = 19 from eq_of_beq hx]
  kernel_rfl
 ·rename_i hx
  refine bodyPost_ret (results_infB (.inr rfl) rfl rfl rfl (Has.new W _ _)) rfl ⟨?_, (Below.refl _ W).alloc (Nat.le_refl _) _⟩
  rw [← HV.out, show o = 20 from eq_of_beq hx]
  kernel_rfl
 ·rename_i hx
  refine bodyPost_ret (results_infB (.inr rfl) rfl rfl rfl (Has.new W _ _)) rfl ⟨?_, (Below.refl _ W).alloc (Nat.le_refl _) _⟩
  rw [← HV.out, show o = 21 from eq_of_beq hx]
  kernel_rfl
 ·rename_i hx
  refine bodyPost_ret (results_infB (.inr rfl) rfl rfl rfl (Has.new W _ _)) rfl ⟨?_, (Below.refl _ W).alloc (Nat.le_refl _) _⟩
  rw [← HV.out, show o = 22 from eq_of_beq hx]
  kernel_rfl
 ·rename_i hx
  refine bodyPost_ret (results_infB (.inr rfl) rfl rfl rfl (Has.new W _ _)) rfl ⟨?_, (Below.refl _ W).alloc (Nat.le_refl _) _⟩
  rw [← HV.out, show o = 23 from eq_of_beq hx]
  kernel_rfl
 ·rename_i hx
  refine bodyPost_ret (results_infB (.inr rfl) rfl rfl rfl (Has.new W _ _)) rfl ⟨?_, (Below.refl _ W).alloc (Nat.le_refl _) _⟩
  rw [← HV.out, show o = 24 from eq_of_beq hx]
  kernel_rfl
 ·rename_i hx
  refine bodyPost_ret (results_infB (.inr rfl) rfl rfl rfl (Has.new W _ _)) rfl ⟨?_, (Below.refl _ W).alloc (Nat.le_refl _) _⟩
  rw [← HV.out, show o = 25 from eq_of_beq hx]
  kernel_rfl
 ·rename_i hx
  refine bodyPost_ret (results_infB (.inr rfl) rfl rfl rfl (Has.new W _ _)) rfl ⟨?_, (Below.refl _ W).alloc (Nat.le_refl _) _⟩
  rw [← HV.out, show o = 26 from eq_of_beq hx]
  kernel_rfl
 ·rename_i hx
  refine bodyPost_ret (results_infB (.inr rfl) rfl rfl rfl (Has.new W _ _)) rfl ⟨?_, (Below.refl _ W).alloc (Nat.le_refl _) _⟩
  rw [← HV.out, show o = 27 from eq_of_beq hx]
  kernel_rfl
 ·rename_i hx
  refine bodyPost_ret (results_infB (.inr rfl) rfl rfl rfl (Has.new W _ _)) rfl ⟨?_, (Below.refl _ W).alloc (Nat.le_refl _) _⟩
  rw [← HV.out, show o = 28 from eq_of_beq hx]
  kernel_rfl
 ·rename_i hx
  refine bodyPost_ret (results_infB (.inr rfl) rfl rfl rfl (Has.new W _ _)) rfl ⟨?_, (Below.refl _ W).alloc (Nat.le_refl _) _⟩
  rw [← HV.out, show o = 29 from eq_of_beq hx]
  kernel_rfl
 ·rename_i hx
  refine bodyPost_ret (results_infB (.inr rfl) rfl rfl rfl (Has.new W _ _)) rfl ⟨?_, (Below.refl _ W).alloc (Nat.le_refl _) _⟩
  rw [← HV.out, show o = 32 from eq_of_beq hx]
  kernel_rfl
 ·rename_i hx
  refine bodyPost_ret (results_infB (.inr rfl) rfl rfl rfl (Has.new W _ _)) rfl ⟨?_, (Below.refl _ W).alloc (Nat.le_refl _) _⟩
  rw [← HV.out, show o = 48 from eq_of_beq hx]
  kernel_rfl
 ·rename_i hx
  refine bodyPost_ret (results_infB (.inr rfl) rfl rfl rfl (Has.new W _ _)) rfl ⟨?_, (Below.refl _ W).alloc (Nat.le_refl _) _⟩
  rw [← HV.out, show o = 49 from eq_of_beq hx]
  kernel_rfl
 ·rename_i hx
  refine bodyPost_ret (results_infB (.inr rfl) rfl rfl rfl (Has.new W _ _)) rfl ⟨?_, (Below.refl _ W).alloc (Nat.le_refl _) _⟩
  rw [← HV.out, show o = 50 from eq_of_beq hx]
  kernel_rfl
 ·rename_i hx
  refine bodyPost_ret (results_infB (.inr rfl) rfl rfl rfl (Has.new W _ _)) rfl ⟨?_, (Below.refl _ W).alloc (Nat.le_refl _) _⟩
  rw [← HV.out, show o = 51 from eq_of_beq hx]
  kernel_rfl
 ·rename_i hx
  refine bodyPost_ret (results_infB (.inr rfl) rfl rfl rfl (Has.new W _ _)) rfl ⟨?_, (Below.refl _ W).alloc (Nat.le_refl _) _⟩
  rw [← HV.out, show o = 52 from eq_of_beq hx]
  kernel_rfl
 ·rename_i hx
  refine bodyPost_ret (results_infB (.inr rfl) rfl rfl rfl (Has.new W _ _)) rfl ⟨?_, (Below.refl _ W).alloc (Nat.le_refl _) _⟩
  rw [← HV.out, show o = 53 from eq_of_beq hx]
  kernel_rfl
 ·rename_i hx
  refine bodyPost_ret (results_infB (.inr rfl) rfl rfl rfl (Has.new W _ _)) rfl ⟨?_, (Below.refl _ W).alloc (Nat.le_refl _) _⟩
  rw [← HV.out, show o = 54 from eq_of_beq hx]
  kernel_rfl
 ·rename_i hx
  refine bodyPost_ret (results_infB (.inr rfl) rfl rfl rfl (Has.new W _ _)) rfl ⟨?_, (Below.refl _ W).alloc (Nat.le_refl _) _⟩
  rw [← HV.out, show o = 55 from eq_of_beq hx]
  kernel_rfl
 ·rename_i hx
  refine bodyPost_ret (results_infB (.inr rfl) rfl rfl rfl (Has.new W _ _)) rfl ⟨?_, (Below.refl _ W).alloc (Nat.le_refl _) _⟩
  rw [← HV.out, show o = 56 from eq_of_beq hx]
  kernel_rfl
 ·rename_i hx
  refine bodyPost_ret (results_infB (.inr rfl) rfl rfl rfl (Has.new W _ _)) rfl ⟨?_, (Below.refl _ W).alloc (Nat.le_refl _) _⟩
  rw [← HV.out, show o = 57 from eq_of_beq hx]
  kernel_rfl
 ·rename_i hx
  refine bodyPost_ret (results_infB (.inr rfl) rfl rfl rfl (Has.new W _ _)) rfl ⟨?_, (Below.refl _ W).alloc (Nat.le_refl _) _⟩
  rw [← HV.out, show o = 58 from eq_of_beq hx]
  kernel_rfl
 ·rename_i hx
  refine bodyPost_ret (results_infB (.inr rfl) rfl rfl rfl (Has.new W _ _)) rfl ⟨?_, (Below.refl _ W).alloc (Nat.le_refl _) _⟩
  rw [← HV.out, show o = 59 from eq_of_beq hx]
  kernel_rfl
 ·rename_i hx
  refine bodyPost_ret (results_infB (.inr rfl) rfl rfl rfl (Has.new W _ _)) rfl ⟨?_, (Below.refl _ W).alloc (Nat.le_refl _) _⟩
  rw [← HV.out, show o = 60 from eq_of_beq hx]
  kernel_rfl
 ·rename_i hx
  refine bodyPost_ret (results_infB (.inr rfl) rfl rfl rfl (Has.new W _ _)) rfl ⟨?_, (Below.refl _ W).alloc (Nat.le_refl _) _⟩
  rw [← HV.out, show o = 61 from eq_of_beq hx]
  kernel_rfl
 ·rename_i hx
  refine bodyPost_ret (results_infB (.inr rfl) rfl rfl rfl (Has.new W _ _)) rfl ⟨?_, (Below.refl _ W).alloc (Nat.le_refl _) _⟩
  rw [← HV.out, show o = 62 from eq_of_beq hx]
  kernel_rfl
 ·rename_i hx
  refine bodyPost_ret (results_infB (.inr rfl) rfl rfl rfl (Has.new W _ _)) rfl ⟨?_, (Below.refl _ W).alloc (Nat.le_refl _) _⟩
  rw [← HV.out, show o = 63 from eq_of_beq hx]
  kernel_rfl
 ·rename_i hx
  refine bodyPost_ret (results_infB (.inr rfl) rfl rfl rfl (Has.new W _ _)) rfl ⟨?_, (Below.refl _ W).alloc (Nat.le_refl _) _⟩
  rw [← HV.out, show o = 64 from eq_of_beq hx]
  kernel_rfl
 ·rename_i hx
  refine bodyPost_ret (results_infB (.inr rfl) rfl rfl rfl (Has.new W _ _)) rfl ⟨?_, (Below.refl _ W).alloc (Nat.le_refl _) _⟩
  rw [← HV.out, show o = 65 from eq_of_beq hx]
  kernel_rfl
 ·rename_i hx
  refine bodyPost_ret (results_infB (.inr rfl) rfl rfl rfl (Has.new W _ _)) rfl ⟨?_, (Below.refl _ W).alloc (Nat.le_refl _) _⟩
  rw [← HV.out, show o = 66 from eq_of_beq hx]
  kernel_rfl
 ·rename_i hx
  refine bodyPost_ret (results_infB (.inr rfl) rfl rfl rfl (Has.new W _ _)) rfl ⟨?_, (Below.refl _ W).alloc (Nat.le_refl _) _⟩
  rw [← HV.out, show o = 67 from eq_of_beq hx]
  kernel_rfl
 ·rename_i hx
  refine bodyPost_ret (results_infB (.inr rfl) rfl rfl rfl (Has.new W _ _)) rfl ⟨?_, (Below.refl _ W).alloc (Nat.le_refl _) _⟩
  rw [← HV.out, show o = 68 from eq_of_beq hx]
  kernel_rfl
 ·rename_i hx
  refine bodyPost_ret (results_infB (.inr rfl) rfl rfl rfl (Has.new W _ _)) rfl ⟨?_, (Below.refl _ W).alloc (Nat.le_refl _) _⟩
  rw [← HV.out, show o = 69 from eq_of_beq hx]
  kernel_rfl
 ·rename_i hx
  refine bodyPost_ret (results_infB (.inr rfl) rfl rfl rfl (Has.new W _ _)) rfl ⟨?_, (Below.refl _ W).alloc (Nat.le_refl _) _⟩
  rw [← HV.out, show o = 70 from eq_of_beq hx]
  kernel_rfl
 ·rename_i hx
  refine bodyPost_ret (results_infB (.inr rfl) rfl rfl rfl (Has.new W _ _)) rfl ⟨?_, (Below.refl _ W).alloc (Nat.le_refl _) _⟩
  rw [← HV.out, show o = 71 from eq_of_beq hx]
  kernel_rfl
 ·rename_i hx
  refine bodyPost_ret (results_infB (.inr rfl) rfl rfl rfl (Has.new W _ _)) rfl ⟨?_, (Below.refl _ W).alloc (Nat.le_refl _) _⟩
  rw [← HV.out, show o = 72 from eq_of_beq hx]
  kernel_rfl
 ·rename_i hx
  refine bodyPost_ret (results_infB (.inr rfl) rfl rfl rfl (Has.new W _ _)) rfl ⟨?_, (Below.refl _ W).alloc (Nat.le_refl _) _⟩
  rw [← HV.out, show o = 80 from eq_of_beq hx]
  kernel_rfl
 ·rename_i hx
  refine bodyPost_ret (results_infB (.inr rfl) rfl rfl rfl (Has.new W _ _)) rfl ⟨?_, (Below.refl _ W).alloc (Nat.le_refl _) _⟩
  rw [← HV.out, show o = 81 from eq_of_beq hx]
  kernel_rfl
 ·rename_i hx
  refine bodyPost_ret (results_infB (.inr rfl) rfl rfl rfl (Has.new W _ _)) rfl ⟨?_, (Below.refl _ W).alloc (Nat.le_refl _) _⟩
  rw [← HV.out, show o = 82 from eq_of_beq hx]
  kernel_rfl
 ·rename_i hx
  refine bodyPost_ret (results_infB (.inr rfl) rfl rfl rfl (Has.new W _ _)) rfl ⟨?_, (Below.refl _ W).alloc (Nat.le_refl _) _⟩
  rw [← HV.out, show o = 83 from eq_of_beq hx]
  kernel_rfl
 ·rename_i hx
  refine bodyPost_ret (results_infB (.inr rfl) rfl rfl rfl (Has.new W _ _)) rfl ⟨?_, (Below.refl _ W).alloc (Nat.le_refl _) _⟩
  rw [← HV.out, show o = 84 from eq_of_beq hx]
  kernel_rfl
 ·rename_i hx
  refine bodyPost_ret (results_infB (.inr rfl) rfl rfl rfl (Has.new W _ _)) rfl ⟨?_, (Below.refl _ W).alloc (Nat.le_refl _) _⟩
  rw [← HV.out, show o = 85 from eq_of_beq hx]
  kernel_rfl
 ·rename_i hx
  refine bodyPost_ret (results_infB (.inr rfl) rfl rfl rfl (Has.new W _ _)) rfl ⟨?_, (Below.refl _ W).alloc (Nat.le_refl _) _⟩
  rw [← HV.out, show o = 86 from eq_of_beq hx]
  kernel_rfl
 ·rename_i hx
  refine bodyPost_ret (results_infB (.inr rfl) rfl rfl rfl (Has.new W _ _)) rfl ⟨?_, (Below.refl _ W).alloc (Nat.le_refl _) _⟩
  rw [← HV.out, show o = 87 from eq_of_beq hx]
  kernel_rfl
 ·rename_i hx
  refine bodyPost_ret (results_infB (.inr rfl) rfl rfl rfl (Has.new W _ _)) rfl ⟨?_, (Below.refl _ W).alloc (Nat.le_refl _) _⟩
  rw [← HV.out, show o = 88 from eq_of_beq hx]
  kernel_rfl
 ·rename_i hx
  refine bodyPost_ret (results_infB (.inr rfl) rfl rfl rfl (Has.new W _ _)) rfl ⟨?_, (Below.refl _ W).alloc (Nat.le_refl _) _⟩
  rw [← HV.out, show o = 89 from eq_of_beq hx]
  kernel_rfl
 ·rename_i hx
  refine bodyPost_ret (results_infB (.inr rfl) rfl rfl rfl (Has.new W _ _)) rfl ⟨?_, (Below.refl _ W).alloc (Nat.le_refl _) _⟩
  rw [← HV.out, show o = 90 from eq_of_beq hx]
  kernel_rfl
 ·rename_i hx
  refine bodyPost_ret (results_infB (.inr rfl) rfl rfl rfl (Has.new W _ _)) rfl ⟨?_, (Below.refl _ W).alloc (Nat.le_refl _) _⟩
  rw [← HV.out, show o = 91 from eq_of_beq hx]
  kernel_rfl
 ·rename_i hx
  refine bodyPost_ret (results_infB (.inr rfl) rfl rfl rfl (Has.new W _ _)) rfl ⟨?_, (Below.refl _ W).alloc (Nat.le_refl _) _⟩
  rw [← HV.out, show o = 95 from eq_of_beq hx]
  kernel_rfl
 ·rename_i hx
  refine bodyPost_ret (results_infB (.inr rfl) rfl rfl rfl (Has.new W _ _)) rfl ⟨?_, (Below.refl _ W).alloc (Nat.le_refl _) _⟩
  rw [← HV.out, show o = 240 from eq_of_beq hx]
  kernel_rfl
 ·rename_i hx
  refine bodyPost_ret (results_infB (.inr rfl) rfl rfl rfl (Has.new W _ _)) rfl ⟨?_, (Below.refl _ W).alloc (Nat.le_refl _) _⟩
  rw [← HV.out, show o = 241 from eq_of_beq hx]
  kernel_rfl
 ·rename_i hx
  refine bodyPost_ret (results_infB (.inr rfl) rfl rfl rfl (Has.new W _ _)) rfl ⟨?_, (Below.refl _ W).alloc (Nat.le_refl _) _⟩
  rw [← HV.out, show o = 242 from eq_of_beq hx]
  kernel_rfl
 ·rename_i hx
  refine bodyPost_ret (results_infB (.inr rfl) rfl rfl rfl (Has.new W _ _)) rfl ⟨?_, (Below.refl _ W).alloc (Nat.le_refl _) _⟩
  rw [← HV.out, show o = 243 from eq_of_beq hx]
  kernel_rfl
 ·rename_i hx
  refine bodyPost_ret (results_infB (.inr rfl) rfl rfl rfl (Has.new W _ _)) rfl ⟨?_, (Below.refl _ W).alloc (Nat.le_refl _) _⟩
  rw [← HV.out, show o = 244 from eq_of_beq hx]
  kernel_rfl
 ·rename_i hx
  refine bodyPost_ret (results_infB (.inr rfl) rfl rfl rfl (Has.new W _ _)) rfl ⟨?_, (Below.refl _ W).alloc (Nat.le_refl _) _⟩
  rw [← HV.out, show o = 245 from eq_of_beq hx]
  kernel_rfl
 ·rename_i hx
  refine bodyPost_ret (results_infB (.inr rfl) rfl rfl rfl (Has.new W _ _)) rfl ⟨?_, (Below.refl _ W).alloc (Nat.le_refl _) _⟩
  rw [← HV.out, show o = 250 from eq_of_beq hx]
  kernel_rfl
 ·rename_i hx
  refine bodyPost_ret (results_infB (.inr rfl) rfl rfl rfl (Has.new W _ _)) rfl ⟨?_, (Below.refl _ W).alloc (Nat.le_refl _) _⟩
  rw [← HV.out, show o = 253 from eq_of_beq hx]
  kernel_rfl
 ·rename_i hx
  refine bodyPost_ret (results_infB (.inr rfl) rfl rfl rfl (Has.new W _ _)) rfl ⟨?_, (Below.refl _ W).alloc (Nat.le_refl _) _⟩
  rw [← HV.out, show o = 254 from eq_of_beq hx]
  kernel_rfl
 ·rename_i hx
  refine bodyPost_ret (results_infB (.inr rfl) rfl rfl rfl (Has.new W _ _)) rfl ⟨?_, (Below.refl _ W).alloc (Nat.le_refl _) _⟩
  rw [← HV.out, show o = 255 from eq_of_beq hx]
  kernel_rfl
 ·have hn : nmI o.toNat = none := nm_none _ (by have := HO.out.1; have := HO.out.2; omega) (fun h => by
   have h0 : (0 : Int) ≤ o := by have := HO.out.2; omega
   have e : ((o.toNat : Nat) : Int) = o := Int.toNat_of_nonneg h0
   simp only [List.mem_cons, List.not_mem_nil, or_false] at h
   rcases h with h | h | h | h | h | h | h | h | h | h | h | h | h | h | h | h | h | h | h | h | h | h | h | h | h | h | h | h | h | h | h | h | h | h | h | h | h | h | h | h | h | h | h | h | h | h | h | h | h | h | h | h | h | h | h | h | h | h | h | h | h | h | h | h | h | h | h | h | h | h | h | h | h | h | h
   ·exact no16 (o := o) 0 (by rw [h] at e; exact e.symm) (by assumption)
   ·exact no16 (o := o) 1 (by rw [h] at e; exact e.symm) (by assumption)
   ·exact no16 (o := o) 2 (by rw [h] at e; exact e.symm) (by assumption)
   ·exact no16 (o := o) 3 (by rw [h] at e; exact e.symm) (by assumption)
   ·exact no16 (o := o) 4 (by rw [h] at e; exact e.symm) (by assumption)
   ·exact no16 (o := o) 5 (by rw [h] at e; exact e.symm) (by assumption)
   ·exact no16 (o := o) 6 (by rw [h] at e; exact e.symm) (by assumption)
   ·exact no16 (o := o) 7 (by rw [h] at e; exact e.symm) (by assumption)
   ·exact no16 (o := o) 8 (by rw [h] at e; exact e.symm) (by assumption)
   ·exact no16 (o := o) 9 (by rw [h] at e; exact e.symm) (by assumption)
   ·exact no16 (o := o) 10 (by rw [h] at e; exact e.symm) (by assumption)
   ·exact no16 (o := o) 11 (by rw [h] at e; exact e.symm) (by assumption)
   ·exact no16 (o := o) 16 (by rw [h] at e; exact e.symm) (by assumption)
   ·exact no16 (o := o) 17 (by rw [h] at e; exact e.symm) (by assumption)
   ·exact no16 (o := o) 18 (by rw [h] at e; exact e.symm) (by assumption)
   ·exact no16 (o := o) 19 (by rw [h] at e; exact e.symm) (by assumption)
   ·exact no16 (o := o) 20 (by rw [h] at e; exact e.symm) (by assumption)
   ·exact no16 (o := o) 21 (by rw [h] at e; exact e.symm) (by assumption)
   ·exact no16 (o := o) 22 (by rw [h] at e; exact e.symm) (by assumption)
   ·exact no16 (o := o) 23 (by rw [h] at e; exact e.symm) (by assumption)
   ·exact no16 (o := o) 24 (by rw [h] at e; exact e.symm) (by assumption)
   ·exact no16 (o := o) 25 (by rw [h] at e; exact e.symm) (by assumption)
   ·exact no16 (o := o) 26 (by rw [h] at e; exact e.symm) (by assumption)
   ·exact no16 (o := o) 27 (by rw [h] at e; exact e.symm) (by assumption)
   ·exact no16 (o := o) 28 (by rw [h] at e; exact e.symm) (by assumption)
   ·exact no16 (o := o) 29 (by rw [h] at e; exact e.symm) (by assumption)
   ·exact no16 (o := o) 32 (by rw [h] at e; exact e.symm) (by assumption)
   ·exact no16 (o := o) 48 (by rw [h] at e; exact e.symm) (by assumption)
   ·exact no16 (o := o) 49 (by rw [h] at e; exact e.symm) (by assumption)
   ·exact no16 (o := o) 50 (by rw [h] at e; exact e.symm) (by assumption)
   ·exact no16 (o := o) 51 (by rw [h] at e; exact e.symm) (by assumption)
   ·exact no16 (o := o) 52 (by rw [h] at e; exact e.symm) (by assumption)
   ·exact no16 (o := o) 53 (by rw [h] at e; exact e.symm) (by assumption)
   ·exact no16 (o := o) 54 (by rw [h] at e; exact e.symm) (by assumption)
   ·exact no16 (o := o) 55 (by rw [h] at e; exact e.symm) (by assumption)
   ·exact no16 (o := o) 56 (by rw [h] at e; exact e.symm) (by assumption)
   ·exact no16 (o := o) 57 (by rw [h] at e; exact e.symm) (by assumption)
   ·exact no16 (o := o) 58 (by rw [h] at e; exact e.symm) (by assumption)
   ·exact no16 (o := o) 59 (by rw [h] at e; exact e.symm) (by assumption)
   ·exact no16 (o := o) 60 (by rw [h] at e; exact e.symm) (by assumption)
   ·exact no16 (o := o) 61 (by rw [h] at e; exact e.symm) (by assumption)
   ·exact no16 (o := o) 62 (by rw [h] at e; exact e.symm) (by assumption)
   ·exact no16 (o := o) 63 (by rw [h] at e; exact e.symm) (by assumption)
   ·exact no16 (o := o) 64 (by rw [h] at e; exact e.symm) (by assumption)
   ·exact no16 (o := o) 65 (by rw [h] at e; exact e.symm) (by assumption)
   ·exact no16 (o := o) 66 (by rw [h] at e; exact e.symm) (by assumption)
   ·exact no16 (o := o) 67 (by rw [h] at e; exact e.symm) (by assumption)
   ·exact no16 (o := o) 68 (by rw [h] at e; exact e.symm) (by assumption)
   ·exact no16 (o := o) 69 (by rw [h] at e; exact e.symm) (by assumption)
   ·exact no16 (o := o) 70 (by rw [h] at e; exact e.symm) (by assumption)
   ·exact no16 (o := o) 71 (by rw [h] at e; exact e.symm) (by assumption)
   ·exact no16 (o := o) 72 (by rw [h] at e; exact e.symm) (by assumption)
   ·exact no16 (o := o) 80 (by rw [h] at e; exact e.symm) (by assumption)
   ·exact no16 (o := o) 81 (by rw [h] at e; exact e.symm) (by assumption)
   ·exact no16 (o := o) 82 (by rw [h] at e; exact e.symm) (by assumption)
   ·exact no16 (o := o) 83 (by rw [h] at e; exact e.symm) (by assumption)
   ·exact no16 (o := o) 84 (by rw [h] at e; exact e.symm) (by assumption)
   ·exact no16 (o := o) 85 (by rw [h] at e; exact e.symm) (by assumption)
   ·exact no16 (o := o) 86 (by rw [h] at e; exact e.symm) (by assumption)
   ·exact no16 (o := o) 87 (by rw [h] at e; exact e.symm) (by assumption)
   ·exact no16 (o := o) 88 (by rw [h] at e; exact e.symm) (by assumption)
   ·exact no16 (o := o) 89 (by rw [h] at e; exact e.symm) (by assumption)
   ·exact no16 (o := o) 90 (by rw [h] at e; exact e.symm) (by assumption)
   ·exact no16 (o := o) 91 (by rw [h] at e; exact e.symm) (by assumption)
   ·exact no16 (o := o) 95 (by rw [h] at e; exact e.symm) (by assumption)
   ·exact no16 (o := o) 240 (by rw [h] at e; exact e.symm) (by assumption)
   ·exact no16 (o := o) 241 (by rw [h] at e; exact e.symm) (by assumption)
   ·exact no16 (o := o) 242 (by rw [h] at e; exact e.symm) (by assumption)
   ·exact no16 (o := o) 243 (by rw [h] at e; exact e.symm) (by assumption)
   ·exact no16 (o := o) 244 (by rw [h] at e; exact e.symm) (by assumption)
   ·exact no16 (o := o) 245 (by rw [h] at e; exact e.symm) (by assumption)
   ·exact no16 (o := o) 250 (by rw [h] at e; exact e.symm) (by assumption)
   ·exact no16 (o := o) 253 (by rw [h] at e; exact e.symm) (by assumption)
   ·exact no16 (o := o) 254 (by rw [h] at e; exact e.symm) (by assumption)
   ·exact no16 (o := o) 255 (by rw [h] at e; exact e.symm) (by assumption)
   )
  refine bodyPost_ret (results_infB (.inr rfl) rfl rfl rfl (Has.new W _ _)) rfl ⟨?_, (Below.refl _ W).alloc (Nat.le_refl _) _⟩
  rw [← HV.out]
  unfold nmV lookV
  rw [hn]
  rfl
theorem rnamed_any (W : World) (op : Nat) (ho : op < 256) : Calls Tryz.prog 28 #[.int .u8 (op : Int)] W fun e w' => e = .returned (lookV nmI op) ∧ Below W.heap.size W w' := rnamed_walk W op ho _ rfl
end
section
open Go Go.RowKit Go.Maps
attribute [local go_sem] Oper.semAt_some Grows wide_fn
theorem rsmall_one (n : Nat) (hn : n < 10) (w : World) : Calls Tryz.prog 27 #[.int .i64 (n : Int)] w fun e w' => e = .returned (.string ⟨(decL n).toArray⟩) ∧ w' = w := by
 have h0 : (0 : Int) ≤ (n : Int) := by omega
 have h1 : (n : Int) < 10 := by omega
 go_enter Tryz.func27, Tryz.ntmps27
 go_wp2_with (refine wpList_cutS _ rfl _ _ _ rfl _ rfl 10 (by kernel_rfl) _ _ rfl rfl h0 (by omega) (by omega) ?_)
 go_ret
 refine ⟨?_, rfl⟩
 refine congrArg Ending.returned (congrArg Value.string ?_)
 exact (by decide +kernel : ∀ n : Nat, n < 10 → (ByteArray.mk #[48, 49, 50, 51, 52, 53, 54, 55, 56, 57]).extract n (n + 1) = ⟨(decL n).toArray⟩) n hn
theorem decL_size (n : Nat) : (⟨(decL n).toArray⟩ : ByteArray).size ≤ 2 := by
 show (decL n).toArray.size ≤ 2
 unfold decL
 split <;> simp
theorem decL_two : ∀ n, n < 40 → 10 ≤ n → decL (n / 10) ++ decL (n % 10) = decL n := by decide +kernel
theorem rsmall_any (n : Nat) (hn : n < 40) (w : World) : Calls Tryz.prog 27 #[.int .i64 (n : Int)] w fun e w' => e = .returned (.string ⟨(decL n).toArray⟩) ∧ w' = w := by
 by_cases h : n < 10
 ·exact rsmall_one n h w
 ·have h0 : (0 : Int) ≤ (n : Int) := by omega
  have h1 : ¬ (n : Int) < 10 := by omega
  obtain ⟨m, hm⟩ : ∃ m, n / 10 = m := ⟨_, rfl⟩
  obtain ⟨r, hr⟩ : ∃ r, n % 10 = r := ⟨_, rfl⟩
  have HM := hid (rsmall_one m (by omega))
  have HR := hid (rsmall_one r (by omega))
  have m0 : (0 : Int) ≤ (m : Int) := by omega
  have m9 : (m : Int) < 10 := by omega
  have r0 : (0 : Int) ≤ (r : Int) := by omega
  have r9 : (r : Int) < 10 := by omega
  have e1 : (n : Int) / 10 = (m : Int) := by omega
  have e2 : (n : Int) % 10 = (r : Int) := by omega
  have e3 : Int.tdiv (n : Int) 10 = (m : Int) := by rw [Int.tdiv_eq_ediv_of_nonneg h0]; exact e1
  have e4 : Int.tmod (n : Int) 10 = (r : Int) := by rw [Int.tmod_eq_emod_of_nonneg h0]; exact e2
  have HT := hid (show (⟨(decL m).toArray⟩ : ByteArray) ++ ⟨(decL r).toArray⟩ = ⟨(decL n).toArray⟩ by rw [catB, ← hm, ← hr, decL_two n hn (by omega)])
  have s1 := decL_size m
  have s2 := decL_size r
  obtain ⟨x1, hx1⟩ : ∃ x, (⟨(decL m).toArray⟩ : ByteArray) = x := ⟨_, rfl⟩
  obtain ⟨x2, hx2⟩ : ∃ x, (⟨(decL r).toArray⟩ : ByteArray) = x := ⟨_, rfl⟩
  rw [hx1] at HM HT s1
  rw [hx2] at HR HT s2
  rw [← HT.out]
  have hsz : ¬ 9223372036854775807 < x1.size + x2.size := by omega
  have hsz2 : x1.size + x2.size ≤ 9223372036854775807 := by omega
  clear hx1 hx2 s1 s2 hm hr hn h HT
  go_enter Tryz.func27, Tryz.ntmps27
  go_wp2_with fail
  refine (HM.out _).mono ?_
  rintro _ w1 ⟨rfl, rfl⟩
  go_wp2_with fail
  refine (HR.out _).mono ?_
  rintro _ w2 ⟨rfl, rfl⟩
  go_wp2
  go_ret
  exact ⟨rfl, rfl⟩
instance instDecInf : DecidableEq Inf := inferInstanceAs (DecidableEq (List UInt8 × Nat × Nat × Nat))
theorem inf_push : ∀ op, op < 128 → 96 ≤ op → opI op = some ([80, 85, 83, 72] ++ decL (op - 95), 0, 1, 3) := by decide +kernel
theorem inf_dup : ∀ op, op < 144 → 128 ≤ op → opI op = some ([68, 85, 80] ++ decL (op - 127), op - 127, op - 126, 3) := by decide +kernel
theorem inf_swap : ∀ op, op < 160 → 144 ≤ op → opI op = some ([83, 87, 65, 80] ++ decL (op - 143), op - 142, op - 142, 3) := by decide +kernel
theorem inf_log : ∀ op, op < 165 → 160 ≤ op → opI op = some ([76, 79, 71] ++ decL (op - 160), op - 158, 0, 375 * (op - 159)) := by decide +kernel
theorem inf_named {op : Nat} (h : ¬ (96 ≤ op ∧ op ≤ 164)) : lookV nmI op = lookV opI op := by unfold lookV nmI; rw [if_neg h]
theorem rinfo_push (W : World) (op : Nat) (h1 : 96 ≤ op) (h2 : op ≤ 127) : Calls Tryz.prog 16 #[.int .u8 (op : Int)] W fun e w' => e = .returned (lookV opI op) ∧ Below W.heap.size W w' := by
 have R := Has.new W 37 #[.string ⟨#[]⟩, .int .i64 0, .int .i64 0, .int .i64 0]
 obtain ⟨c0, c1, c2, c3⟩ := c4 R
 have z0 := R.frozen 0
 have z1 := R.frozen 1
 have z2 := R.frozen 2
 have z3 := R.frozen 3
 clear R
 obtain ⟨m, hm⟩ : ∃ m, op - 95 = m := ⟨_, rfl⟩
 have hmI : (op : Int) - 95 = (m : Int) := by omega
 have HS := hid (rsmall_any m (by omega))
 have HV := hid (show lookV opI op = .tuple #[.agg #[.string ((⟨#[80, 85, 83, 72]⟩ : ByteArray) ++ ⟨(decL m).toArray⟩), .int .i64 0, .int .i64 1, .int .i64 3], .bool true] by
  unfold lookV
  rw [inf_push op (by omega) h1, hm]
  rw [show (⟨#[80, 85, 83, 72]⟩ : ByteArray) = ⟨([80, 85, 83, 72] : List UInt8).toArray⟩ from rfl, catB]
  rfl)
 have s1 := decL_size m
 obtain ⟨x1, hx1⟩ : ∃ x, (⟨(decL m).toArray⟩ : ByteArray) = x := ⟨_, rfl⟩
 rw [hx1] at HS HV s1
 have hsz : ¬ 9223372036854775807 < 4 + x1.size := by omega
 have hsz2 : 4 + x1.size ≤ 9223372036854775807 := by omega
 obtain ⟨V, hV⟩ : ∃ V, lookV opI op = V := ⟨_, rfl⟩
 rw [hV] at HV ⊢
 have hbd := fun (s : ByteArray) (w : World) => (show (Instr.build 37 #[(0, .string s), (2, .int .i64 1), (3, .int .i64 3)]).run Tryz.prog w = .ok (.agg #[.string s, .int .i64 0, .int .i64 1, .int .i64 3]) w by kernel_rfl)
 have g0 : (op : Int) ≥ 96 := by omega
 have g1 : ¬ (op : Int) ≥ 128 := by omega
 have g2 : ¬ (op : Int) ≥ 144 := by omega
 have g3 : ¬ (op : Int) ≥ 160 := by omega
 have l0 : (op : Int) ≤ 127 := by omega
 have l1 : (op : Int) ≤ 143 := by omega
 have l2 : (op : Int) ≤ 159 := by omega
 have l3 : (op : Int) ≤ 164 := by omega
 have o0 : (0 : Int) ≤ (op : Int) := by omega
 have o1 : (op : Int) < 256 := by omega
 clear hx1 s1 hm h1 h2 hV
 go_enter Tryz.func16, Tryz.ntmps16
 go_wp2_with fail
 refine (HS.out _).mono ?_
 rintro _ w1 ⟨rfl, rfl⟩
 go_wp2
 refine bodyPost_ret (results_infB (.inr rfl) rfl rfl rfl (Has.new W _ _)) rfl ⟨?_, (Below.refl _ W).alloc (Nat.le_refl _) _⟩
 rw [HV.out]
 rfl
theorem rinfo_dup (W : World) (op : Nat) (h1 : 128 ≤ op) (h2 : op ≤ 143) : Calls Tryz.prog 16 #[.int .u8 (op : Int)] W fun e w' => e = .returned (lookV opI op) ∧ Below W.heap.size W w' := by
 have R := Has.new W 37 #[.string ⟨#[]⟩, .int .i64 0, .int .i64 0, .int .i64 0]
 obtain ⟨c0, c1, c2, c3⟩ := c4 R
 have z0 := R.frozen 0
 have z1 := R.frozen 1
 have z2 := R.frozen 2
 have z3 := R.frozen 3
 clear R
 obtain ⟨m, hm⟩ : ∃ m, op - 127 = m := ⟨_, rfl⟩
 have hmI : (op : Int) - 127 = (m : Int) := by omega
 have HS := hid (rsmall_any m (by omega))
 obtain ⟨m2, hm2⟩ : ∃ x, op - 126 = x := ⟨_, rfl⟩
 have hm2I : (op : Int) - 126 = (m2 : Int) := by omega
 have HV := hid (show lookV opI op = .tuple #[.agg #[.string ((⟨#[68, 85, 80]⟩ : ByteArray) ++ ⟨(decL m).toArray⟩), .int .i64 (m : Int), .int .i64 (m2 : Int), .int .i64 3], .bool true] by
  unfold lookV
  rw [inf_dup op (by omega) h1, hm, hm2]
  rw [show (⟨#[68, 85, 80]⟩ : ByteArray) = ⟨([68, 85, 80] : List UInt8).toArray⟩ from rfl, catB]
  rfl)
 have s1 := decL_size m
 obtain ⟨x1, hx1⟩ : ∃ x, (⟨(decL m).toArray⟩ : ByteArray) = x := ⟨_, rfl⟩
 rw [hx1] at HS HV s1
 have hsz : ¬ 9223372036854775807 < 3 + x1.size := by omega
 have hsz2 : 3 + x1.size ≤ 9223372036854775807 := by omega
 obtain ⟨V, hV⟩ : ∃ V, lookV opI op = V := ⟨_, rfl⟩
 rw [hV] at HV ⊢
 have hbd := fun (s : ByteArray) (a b : Int ) (w : World) => (show (Instr.build 37 #[(0, .string s), (1, .int .i64 a), (2, .int .i64 b), (3, .int .i64 3)]).run Tryz.prog w = .ok (.agg #[.string s, .int .i64 a, .int .i64 b, .int .i64 3]) w by kernel_rfl)
 have g0 : (op : Int) ≥ 96 := by omega
 have g1 : (op : Int) ≥ 128 := by omega
 have g2 : ¬ (op : Int) ≥ 144 := by omega
 have g3 : ¬ (op : Int) ≥ 160 := by omega
 have l0 : ¬ (op : Int) ≤ 127 := by omega
 have l1 : (op : Int) ≤ 143 := by omega
 have l2 : (op : Int) ≤ 159 := by omega
 have l3 : (op : Int) ≤ 164 := by omega
 have o0 : (0 : Int) ≤ (op : Int) := by omega
 have o1 : (op : Int) < 256 := by omega
 clear hx1 s1 hm h1 h2 hV hm2
 go_enter Tryz.func16, Tryz.ntmps16
 go_wp2_with fail
 refine (HS.out _).mono ?_
 rintro _ w1 ⟨rfl, rfl⟩
 go_wp2
 refine bodyPost_ret (results_infB (.inr rfl) rfl rfl rfl (Has.new W _ _)) rfl ⟨?_, (Below.refl _ W).alloc (Nat.le_refl _) _⟩
 rw [HV.out]
 rfl
theorem rinfo_swap (W : World) (op : Nat) (h1 : 144 ≤ op) (h2 : op ≤ 159) : Calls Tryz.prog 16 #[.int .u8 (op : Int)] W fun e w' => e = .returned (lookV opI op) ∧ Below W.heap.size W w' := by
 have R := Has.new W 37 #[.string ⟨#[]⟩, .int .i64 0, .int .i64 0, .int .i64 0]
 obtain ⟨c0, c1, c2, c3⟩ := c4 R
 have z0 := R.frozen 0
 have z1 := R.frozen 1
 have z2 := R.frozen 2
 have z3 := R.frozen 3
 clear R
 obtain ⟨m, hm⟩ : ∃ m, op - 143 = m := ⟨_, rfl⟩
 have hmI : (op : Int) - 143 = (m : Int) := by omega
 have HS := hid (rsmall_any m (by omega))
 obtain ⟨m2, hm2⟩ : ∃ x, op - 142 = x := ⟨_, rfl⟩
 have hm2I : (op : Int) - 142 = (m2 : Int) := by omega
 have HV := hid (show lookV opI op = .tuple #[.agg #[.string ((⟨#[83, 87, 65, 80]⟩ : ByteArray) ++ ⟨(decL m).toArray⟩), .int .i64 (m2 : Int), .int .i64 (m2 : Int), .int .i64 3], .bool true] by
  unfold lookV
  rw [inf_swap op (by omega) h1, hm, hm2]
  rw [show (⟨#[83, 87, 65, 80]⟩ : ByteArray) = ⟨([83, 87, 65, 80] : List UInt8).toArray⟩ from rfl, catB]
  rfl)
 have s1 := decL_size m
 obtain ⟨x1, hx1⟩ : ∃ x, (⟨(decL m).toArray⟩ : ByteArray) = x := ⟨_, rfl⟩
 rw [hx1] at HS HV s1
 have hsz : ¬ 9223372036854775807 < 4 + x1.size := by omega
 have hsz2 : 4 + x1.size ≤ 9223372036854775807 := by omega
 obtain ⟨V, hV⟩ : ∃ V, lookV opI op = V := ⟨_, rfl⟩
 rw [hV] at HV ⊢
 have hbd := fun (s : ByteArray) (a b : Int ) (w : World) => (show (Instr.build 37 #[(0, .string s), (1, .int .i64 a), (2, .int .i64 b), (3, .int .i64 3)]).run Tryz.prog w = .ok (.agg #[.string s, .int .i64 a, .int .i64 b, .int .i64 3]) w by kernel_rfl)
 have g0 : (op : Int) ≥ 96 := by omega
 have g1 : (op : Int) ≥ 128 := by omega
 have g2 : (op : Int) ≥ 144 := by omega
 have g3 : ¬ (op : Int) ≥ 160 := by omega
 have l0 : ¬ (op : Int) ≤ 127 := by omega
 have l1 : ¬ (op : Int) ≤ 143 := by omega
 have l2 : (op : Int) ≤ 159 := by omega
 have l3 : (op : Int) ≤ 164 := by omega
 have o0 : (0 : Int) ≤ (op : Int) := by omega
 have o1 : (op : Int) < 256 := by omega
 clear hx1 s1 hm h1 h2 hV hm2
 go_enter Tryz.func16, Tryz.ntmps16
 go_wp2_with fail
 refine (HS.out _).mono ?_
 rintro _ w1 ⟨rfl, rfl⟩
 go_wp2
 refine bodyPost_ret (results_infB (.inr rfl) rfl rfl rfl (Has.new W _ _)) rfl ⟨?_, (Below.refl _ W).alloc (Nat.le_refl _) _⟩
 rw [HV.out]
 rfl
theorem rinfo_log (W : World) (op : Nat) (h1 : 160 ≤ op) (h2 : op ≤ 164) : Calls Tryz.prog 16 #[.int .u8 (op : Int)] W fun e w' => e = .returned (lookV opI op) ∧ Below W.heap.size W w' := by
 have R := Has.new W 37 #[.string ⟨#[]⟩, .int .i64 0, .int .i64 0, .int .i64 0]
 obtain ⟨c0, c1, c2, c3⟩ := c4 R
 have z0 := R.frozen 0
 have z1 := R.frozen 1
 have z2 := R.frozen 2
 have z3 := R.frozen 3
 clear R
 obtain ⟨m, hm⟩ : ∃ m, op - 160 = m := ⟨_, rfl⟩
 have hmI : (op : Int) - 160 = (m : Int) := by omega
 have HS := hid (rsmall_any m (by omega))
 obtain ⟨m3, hm3⟩ : ∃ x, op - 158 = x := ⟨_, rfl⟩
 have hm3I : (op : Int) - 158 = (m3 : Int) := by omega
 obtain ⟨m2, hm2⟩ : ∃ x, op - 159 = x := ⟨_, rfl⟩
 have hm2I : (op : Int) - 159 = (m2 : Int) := by omega
 obtain ⟨gq, hgq⟩ : ∃ x, 375 * m2 = x := ⟨_, rfl⟩
 have hgqI : (375 : Int) * (m2 : Int) = (gq : Int) := by omega
 have hm2b : (m2 : Int) ≤ 5 := by omega
 have hm20 : (0 : Int) ≤ (m2 : Int) := by omega
 have HV := hid (show lookV opI op = .tuple #[.agg #[.string ((⟨#[76, 79, 71]⟩ : ByteArray) ++ ⟨(decL m).toArray⟩), .int .i64 (m3 : Int), .int .i64 0, .int .i64 (gq : Int)], .bool true] by
  unfold lookV
  rw [inf_log op (by omega) h1, hm, hm3, hm2, hgq]
  rw [show (⟨#[76, 79, 71]⟩ : ByteArray) = ⟨([76, 79, 71] : List UInt8).toArray⟩ from rfl, catB]
  rfl)
 have s1 := decL_size m
 obtain ⟨x1, hx1⟩ : ∃ x, (⟨(decL m).toArray⟩ : ByteArray) = x := ⟨_, rfl⟩
 rw [hx1] at HS HV s1
 have hsz : ¬ 9223372036854775807 < 3 + x1.size := by omega
 have hsz2 : 3 + x1.size ≤ 9223372036854775807 := by omega
 obtain ⟨V, hV⟩ : ∃ V, lookV opI op = V := ⟨_, rfl⟩
 rw [hV] at HV ⊢
 have hbd := fun (s : ByteArray) (a b : Int ) (w : World) => (show (Instr.build 37 #[(0, .string s), (1, .int .i64 a), (3, .int .i64 b)]).run Tryz.prog w = .ok (.agg #[.string s, .int .i64 a, .int .i64 0, .int .i64 b]) w by kernel_rfl)
 have g0 : (op : Int) ≥ 96 := by omega
 have g1 : (op : Int) ≥ 128 := by omega
 have g2 : (op : Int) ≥ 144 := by omega
 have g3 : (op : Int) ≥ 160 := by omega
 have l0 : ¬ (op : Int) ≤ 127 := by omega
 have l1 : ¬ (op : Int) ≤ 143 := by omega
 have l2 : ¬ (op : Int) ≤ 159 := by omega
 have l3 : (op : Int) ≤ 164 := by omega
 have o0 : (0 : Int) ≤ (op : Int) := by omega
 have o1 : (op : Int) < 256 := by omega
 clear hx1 s1 hm h1 h2 hV hm3 hm2 hgq
 go_enter Tryz.func16, Tryz.ntmps16
 go_wp2_with fail
 refine (HS.out _).mono ?_
 rintro _ w1 ⟨rfl, rfl⟩
 go_wp2
 refine bodyPost_ret (results_infB (.inr rfl) rfl rfl rfl (Has.new W _ _)) rfl ⟨?_, (Below.refl _ W).alloc (Nat.le_refl _) _⟩
 rw [HV.out]
 rfl
theorem rinfo_named (W : World) (op : Nat) (ho : op < 256) (h : ¬ (96 ≤ op ∧ op ≤ 164)) : Calls Tryz.prog 16 #[.int .u8 (op : Int)] W fun e w' => e = .returned (lookV opI op) ∧ Below W.heap.size W w' := by
 obtain ⟨W1, hW1, R, q1⟩ := newBox W 37 #[.string ⟨#[]⟩, .int .i64 0, .int .i64 0, .int .i64 0]
 have HR := hid R
 have Q1 := hid q1
 have HN := hid (rnamed_any W1 op ho)
 rw [inf_named h] at HN
 obtain ⟨s, po, pu, ga, b, hV⟩ := lookV_parts opI op
 rw [hV] at HN ⊢
 have key : ((op : Int) < 96) ∨ ((164 : Int) < op) := by omega
 have o0 : (0 : Int) ≤ (op : Int) := by omega
 have o1 : (op : Int) < 256 := by omega
 have HW1 := hid hW1
 clear h ho hV R q1 hW1
 rcases key with hk | hk
 ·have g0 : ¬ (op : Int) ≥ 96 := by omega
  have g1 : ¬ (op : Int) ≥ 128 := by omega
  have g2 : ¬ (op : Int) ≥ 144 := by omega
  have g3 : ¬ (op : Int) ≥ 160 := by omega
  have l0 : (op : Int) ≤ 127 := by omega
  have l1 : (op : Int) ≤ 143 := by omega
  have l2 : (op : Int) ≤ 159 := by omega
  have l3 : (op : Int) ≤ 164 := by omega
  go_enter Tryz.func16, Tryz.ntmps16
  go_wp2_with fail
  rw [HW1.out]
  refine HN.out.mono ?_
  rintro _ w2 ⟨rfl, q2⟩
  have R2 := HR.out.later q2
  have HQ2 := hid (Q1.out.trans (q2.mono Q1.out.size))
  obtain ⟨c0, c1, c2, c3⟩ := c4 R2
  obtain ⟨z0, z1, z2, z3⟩ := f4 R2
  have HR2 := hid ((((R2.set 0 (.string s)).set 1 (.int .i64 (po : Int))).set 2 (.int .i64 (pu : Int))).set 3 (.int .i64 (ga : Int)))
  have HQ := hid ((((HQ2.out.setCell (p := ⟨W.heap.size, 0, none⟩) (Nat.le_refl _) (.string s)).setCell (p := ⟨W.heap.size, 1, none⟩) (Nat.le_refl _) (.int .i64 (po : Int))).setCell (p := ⟨W.heap.size, 2, none⟩) (Nat.le_refl _) (.int .i64 (pu : Int))).setCell (p := ⟨W.heap.size, 3, none⟩) (Nat.le_refl _) (.int .i64 (ga : Int)))
  clear R2 q2 HQ2 HN HW1
  go_wp2
  exact bodyPost_ret (results_infB (.inr rfl) rfl rfl rfl HR2.out) rfl ⟨rfl, HQ.out⟩
 ·have g0 : (op : Int) ≥ 96 := by omega
  have g1 : (op : Int) ≥ 128 := by omega
  have g2 : (op : Int) ≥ 144 := by omega
  have g3 : (op : Int) ≥ 160 := by omega
  have l0 : ¬ (op : Int) ≤ 127 := by omega
  have l1 : ¬ (op : Int) ≤ 143 := by omega
  have l2 : ¬ (op : Int) ≤ 159 := by omega
  have l3 : ¬ (op : Int) ≤ 164 := by omega
  go_enter Tryz.func16, Tryz.ntmps16
  go_wp2_with fail
  rw [HW1.out]
  refine HN.out.mono ?_
  rintro _ w2 ⟨rfl, q2⟩
  have R2 := HR.out.later q2
  have HQ2 := hid (Q1.out.trans (q2.mono Q1.out.size))
  obtain ⟨c0, c1, c2, c3⟩ := c4 R2
  obtain ⟨z0, z1, z2, z3⟩ := f4 R2
  have HR2 := hid ((((R2.set 0 (.string s)).set 1 (.int .i64 (po : Int))).set 2 (.int .i64 (pu : Int))).set 3 (.int .i64 (ga : Int)))
  have HQ := hid ((((HQ2.out.setCell (p := ⟨W.heap.size, 0, none⟩) (Nat.le_refl _) (.string s)).setCell (p := ⟨W.heap.size, 1, none⟩) (Nat.le_refl _) (.int .i64 (po : Int))).setCell (p := ⟨W.heap.size, 2, none⟩) (Nat.le_refl _) (.int .i64 (pu : Int))).setCell (p := ⟨W.heap.size, 3, none⟩) (Nat.le_refl _) (.int .i64 (ga : Int)))
  clear R2 q2 HQ2 HN HW1
  go_wp2
  exact bodyPost_ret (results_infB (.inr rfl) rfl rfl rfl HR2.out) rfl ⟨rfl, HQ.out⟩
theorem rinfo_any (W : World) (op : Nat) (ho : op < 256) : Calls Tryz.prog 16 #[.int .u8 (op : Int)] W fun e w' => e = .returned (lookV opI op) ∧ Below W.heap.size W w' := by
 by_cases h : 96 ≤ op ∧ op ≤ 164
 ·obtain ⟨h1, h2⟩ := h
  by_cases a : op ≤ 127
  ·exact rinfo_push W op h1 a
  ·by_cases b : op ≤ 143
   ·exact rinfo_dup W op (by omega) b
   ·by_cases c : op ≤ 159
    ·exact rinfo_swap W op (by omega) c
    ·exact rinfo_log W op (by omega) h2
 ·exact rinfo_named W op ho h
end
section
open Go Go.RowKit
attribute [local go_sem] Oper.semAt_some Grows wide_fn eq4
def PopRQ (W : World) (s t : List Nat) (c : Int) (e : Ending) (w' : World) : Prop := ∃ v' u' m, e = .returned (.tuple #[v', u', .int .i64 c]) ∧ W.heap.size ≤ m ∧ WdB m w' v' s ∧ WdB W.heap.size w' u' t ∧ (∀ r, Value.ownBlock u' = some r → r < m) ∧ Below W.heap.size W w'
theorem WdRow.keptC {A X : World} {row : Option Nat} {base : Nat} {v : Value} {l : List Nat} (h : WdRow A base v l) (hg : A.grownBy X row) (hr : ∀ r, row = some r → r < base) : WdRow X base v l := by
 refine ⟨h.1, ?_⟩
 rcases h.2 with h0 | ⟨g, cap, cur, h1, h2, h3, h4⟩
 ·exact .inl h0
 ·exact .inr ⟨g, cap, cur, h1, h2, (hg.block g (Array.getElem?_eq_some_iff.1 h3).1 (fun e => by have := hr g e.symm; omega)).trans h3, h4⟩
theorem rpop_rowQ (W : World) (sv : Value) (s : List Nat) (k : Int) (hs : WdsAt W sv s) (hk : s.length ≤ 10000) :
  Calls Tryz.prog 24 #[sv, .int .i64 k] W (PopRQ W (popL s k) (popT s k) (askN s.length k 0 0)) := by
 have hfin := hid (show ∀ v' (w' : World) (c : Int), askN s.length k 0 0 = c → c ≠ 0 → WdB W.heap.size w' v' s → Below W.heap.size W w' → PopRQ W (popL s k) (popT s k) (askN s.length k 0 0) (.returned (.tuple #[v', .slice none 0 0, .int .i64 c])) w' from fun v' w' c h1 h2 h3 h4 => by
  unfold popL popT
  rw [h1, if_neg h2, if_neg h2]
  exact ⟨v', _, W.heap.size, rfl, Nat.le_refl _, h3, ⟨WdRow.nil _ _, fun x hx => by cases hx⟩, (by intro r e; simp [Value.ownBlock] at e), h4⟩)
 have hfin2 := hid (show ∀ v' u' (w' : World) (m : Nat), askN s.length k 0 0 = 0 → W.heap.size ≤ m → WdB m w' v' (s.take (s.length - k.toNat)) → WdB W.heap.size w' u' ((List.range k.toNat).map (nthW s)) → (∀ r, Value.ownBlock u' = some r → r < m) → Below W.heap.size W w' → PopRQ W (popL s k) (popT s k) (askN s.length k 0 0) (.returned (.tuple #[v', u', .int .i64 0])) w' from fun v' u' w' m h1 h0 h2 h3 h5 h4 => by
  unfold popL popT
  rw [h1, if_pos rfl, if_pos rfl]
  exact ⟨v', u', m, rfl, h0, h2, h3, h5, h4⟩)
 obtain ⟨Post, hPost⟩ : ∃ Post, PopRQ W (popL s k) (popT s k) (askN s.length k 0 0) = Post := ⟨_, rfl⟩
 rw [hPost] at hfin hfin2 ⊢
 clear hPost
 obtain ⟨a, ca, rfl, hnc, hcm⟩ := hs.shape
 have HS := hid hs
 have HALL := hid hs.all
 have HC := hid (fun X (hX : Below W.heap.size W X) => own_wordsB X _ s W.heap.size hX.size (hs.later hX) (by omega))
 have HAN := hid (show askN s.length k 0 0 = if 1024 < s.length ∨ k < 0 then 1 else if (s.length : Int) - 0 < k then 40 else 0 from rfl)
 have h0 : (0 : Int) ≤ (s.length : Int) := by omega
 have h1 : (s.length : Int) ≤ 10000 := by omega
 clear hs
 by_cases c0 : askN s.length k 0 0 = 0
 ·obtain ⟨g1, g2, g3⟩ := ask_ok c0
  obtain ⟨N, rfl⟩ : ∃ N : Nat, k = (N : Int) := ⟨k.toNat, by omega⟩
  simp only [Int.toNat_natCast] at hfin2
  have HCT := hid (fun X (hX : Below W.heap.size W X) => own_wordsB X _ (s.take (s.length - N)) X.heap.size (Nat.le_refl _) ((HS.out.later hX).take (s.length - N) (by omega)) (by simp; omega))
  have H0 := hid c0
  have HN := hid (show N ≤ s.length ∧ s.length ≤ 1024 from ⟨by omega, g1⟩)
  have HSUB := hid (show (s.length : Int) - (N : Int) = ((s.length - N : Nat) : Int) by omega)
  have HNC := hid hnc
  have n0 : (0 : Int) ≤ (N : Int) := by omega
  have n1 : (N : Int) ≤ 1024 := by omega
  have d1 : ¬ (s.length : Int) > 1024 := by omega
  have d2 : ¬ (N : Int) < 0 := by omega
  have d3 : ¬ (N : Int) > (s.length : Int) := by omega
  clear c0 hfin HC g1 g2 g3 hk hnc hcm HAN
  obtain ⟨L, hL⟩ : ∃ L, s.length = L := ⟨_, rfl⟩
  have HL := hid hL
  rw [hL] at HCT HS HSUB d1 d3 h0 h1 ⊢
  clear hL
  go_enter Tryz.func24, Tryz.ntmps24
  go_wp2_with fail
  go_loopw [7, 8] (fun ov i wr => ∃ k : Nat, k ≤ N ∧ i = .int .i64 (k : Int) ∧ WdRow wr W.heap.size ov ((List.range k).map (nthW s)) ∧ Below W.heap.size W wr) (fun _ i _ => N - (intOf i).toNat)
  case atStart => exact ⟨0, by omega, rfl, WdRow.nil _ _, Below.refl _ _⟩
  case round =>
   obtain ⟨k, hk, rfl, hrow, hq⟩ := hrel
   obtain ⟨ov, hov⟩ : ∃ ov, ov = u7 := ⟨_, rfl⟩
   subst hov
   have HQ := hid hq
   have HROW := hid hrow
   clear hrow hq
   by_cases hlt : k < N
   ·have hltI : (k : Int) < (N : Int) := by omega
    have k0 : (0 : Int) ≤ (k : Int) := by omega
    have kb : (k : Int) ≤ 1024 := by omega
    obtain ⟨i, hi⟩ : ∃ i, L - 1 - k = i := ⟨_, rfl⟩
    have e1 : (L : Int) - 1 - (k : Int) = (i : Int) := by have := HN.out; have := HL.out; omega
    have i0 : (0 : Int) ≤ (i : Int) := by omega
    have i1 : (i : Int) < (L : Int) := by omega
    have hx := getD_at (s := s) (i := i) (by have := HN.out; have := HL.out; omega)
    have hnth : nthW s k = s.getD i 0 := by unfold nthW; rw [HL.out, hi]
    have HRS := hid (show (List.range (k + 1)).map (nthW s) = (List.range k).map (nthW s) ++ [s.getD i 0] by rw [range_snoc, hnth])
    obtain ⟨b, rfl, _⟩ := HS.out.at hx
    obtain ⟨c0, c1, c2, c3⟩ := (HS.out.later HQ.out).at4 hx
    obtain ⟨v', w', happ, hrow', hbel⟩ := push_word wr W.heap.size ov _ HROW.out HQ.out.size (by simp; have := HN.out; omega) (s.getD i 0) (HS.out.ok hx)
    have R2 := hid hrow'
    have Q2 := hid (HQ.out.trans hbel)
    have HK := hid hlt
    clear hlt hk hrow' hbel hx hnth hi
    generalize s.getD i 0 = x at *
    go_wp2_with (at_builtin; refine wpList_append_runW rfl (.tmp 29) (.tmp 38) 27 rfl _ _ _ rfl rfl happ ?_)
    go_roundw
    case rel => exact ⟨k + 1, HK.out, by simp, by rw [HRS.out]; exact R2.out, Q2.out⟩
    case measure => have := HK.out; simp [intOf]; omega
   ·obtain rfl : k = N := by omega
    have hkk : ¬ (k : Int) < (k : Int) := by omega
    have hLN : ((L - k : Nat) : Int) ≤ (L : Int) := by omega
    have hL0 : (0 : Int) ≤ ((L - k : Nat) : Int) := by omega
    have hLN2 : L - k ≤ ca := by have := HNC.out; have := HL.out; omega
    have hsub := HSUB.out
    have HRN := hid (show ∀ x ∈ (List.range k).map (nthW s), W256 x from fun x hx => by
     obtain ⟨i, _, rfl⟩ := List.mem_map.1 hx
     exact nthW_lt HALL.out i)
    clear hk
    go_wp2_with fail
    refine (HCT.out _ HQ.out).mono ?_
    rintro e w2 ⟨v', rfl, k2, q2⟩
    go_wp2
    go_ret3
    exact hfin2.out _ _ _ wr.heap.size H0.out HQ.out.size (by rw [HL.out]; exact k2) ⟨HROW.out.later q2, HRN.out⟩ (fun r e => by obtain ⟨_, cs, h⟩ := HROW.out.blockW e; exact (Array.getElem?_eq_some_iff.1 h).1) (HQ.out.trans (q2.mono HQ.out.size))
 ·obtain ⟨c, hc⟩ : ∃ c, askN s.length k 0 0 = c := ⟨_, rfl⟩
  have hcn : c ≠ 0 := by rw [← hc]; exact c0
  have HF := hid (fun v' w' => hfin.out v' w' c hc hcn)
  rw [hc] at HAN
  have HCN := hid hcn
  clear c0 hfin hfin2 hc hcn hnc hcm
  generalize hn : s.length = n at *
  clear hn hk
  have key : (((n : Int) > 1024 ∨ (¬ (n : Int) > 1024 ∧ k < 0)) ∧ c = 1) ∨ (¬ (n : Int) > 1024 ∧ ¬ k < 0 ∧ k > (n : Int) ∧ c = 40) := by
   have h := HAN.out
   split at h
   ·rename_i h'
    refine .inl ⟨?_, h⟩
    rcases h' with h' | h'
    ·exact .inl (by omega)
    ·by_cases hh : (n : Int) > 1024
     ·exact .inl hh
     ·exact .inr ⟨hh, h'⟩
   ·split at h
    ·exact .inr ⟨by omega, by omega, by omega, h⟩
    ·exact absurd h HCN.out
  clear HAN
  obtain ⟨d1 | ⟨d1, d2⟩, rfl⟩ | ⟨d1, d2, d3, rfl⟩ := key
  all_goals
   go_enter Tryz.func24, Tryz.ntmps24
   go_wp2_with fail
   refine (HC.out _ (Below.refl _ _)).mono ?_
   rintro e w2 ⟨v', rfl, k2, q2⟩
   go_wp2
   go_ret3
   exact HF.out _ _ k2 q2
end
end Go.Proofs.YtnkhmgmganejmaaGreatDoor
