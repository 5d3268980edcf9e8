/- Of, Int. For every number and word. -/
import Derived.Test.YtbkgipggblphlaaWordA
import Derived.Test.YtbkgipggblphlaaGrown
import Derived.Test.YtbkgipggblphlaaPartsN
namespace Go.Proofs.Ytbkgipggblphlaa
open Go Go.RowKit Go.Shelf
attribute [local go_sem] Oper.semAt_some Grows wide_fn

/-- A number of Go's int. -/
def I64 (n : Int) : Prop := -9223372036854775808 ≤ n ∧ n ≤ 9223372036854775807
/-- The number of an int's word. -/
def ofN (n : Int) : Nat := if n < 0 then (115792089237316195423570985008687907853269984665640564039457584007913129639936 + n).toNat else n.toNat
theorem ofN_lt (n : Int) (h : I64 n) : W256 (ofN n) := by unfold W256 ofN I64 at *; split <;> omega
theorem of_neg (n : Int) (h : I64 n) (hn : n < 0) : lim (ofN n) 0 = 18446744073709551616 + n ∧ lim (ofN n) 1 = 18446744073709551615 ∧ lim (ofN n) 2 = 18446744073709551615 ∧ lim (ofN n) 3 = 18446744073709551615 := by
  unfold I64 at h
  refine lim_num (fun k => if k = 0 then 18446744073709551616 + n else 18446744073709551615) _ ?_ ?_ ?_ ?_ ?_
  · unfold U64; simp; omega
  · unfold U64; simp
  · unfold U64; simp
  · unfold U64; simp
  · unfold num ofN; rw [if_pos hn]; simp; omega
theorem of_pos (n : Int) (h : I64 n) (hn : ¬ n < 0) : lim (ofN n) 0 = n ∧ lim (ofN n) 1 = 0 ∧ lim (ofN n) 2 = 0 ∧ lim (ofN n) 3 = 0 := by
  unfold I64 at h
  refine lim_num (fun k => if k = 0 then n else 0) _ ?_ ?_ ?_ ?_ ?_
  · unfold U64; simp; omega
  · unfold U64; simp
  · unfold U64; simp
  · unfold U64; simp
  · unfold num ofN; rw [if_neg hn]; simp; omega

theorem of_wrap (n : Int) (h : I64 n) : lim (ofN n) 0 = IntKind.u64.wrap n ∧ lim (ofN n) 1 = IntKind.u64.wrap (n / 9223372036854775808) ∧ lim (ofN n) 2 = IntKind.u64.wrap (n / 9223372036854775808) ∧ lim (ofN n) 3 = IntKind.u64.wrap (n / 9223372036854775808) := by
  by_cases hn : n < 0
  · obtain ⟨h0, h1, h2, h3⟩ := of_neg n h hn
    rw [h0, h1, h2, h3]
    unfold I64 at h
    simp only [IntKind.wrap_u64]
    refine ⟨?_, ?_, ?_, ?_⟩ <;> omega
  · obtain ⟨h0, h1, h2, h3⟩ := of_pos n h hn
    rw [h0, h1, h2, h3]
    unfold I64 at h
    simp only [IntKind.wrap_u64]
    refine ⟨?_, ?_, ?_, ?_⟩ <;> omega

/-- The greatest number that Int tells. -/
def maxI : Nat := 4611686018427387903
theorem maxI_lim : lim maxI 0 = 4611686018427387903 ∧ lim maxI 1 = 0 ∧ lim maxI 2 = 0 ∧ lim maxI 3 = 0 := ⟨rfl, rfl, rfl, rfl⟩
theorem maxI_lt : W256 maxI := by unfold W256 maxI; omega
def intV (a : Nat) : Value := if a ≤ maxI then .tuple #[.int .i64 (a : Int), .bool true] else .tuple #[.int .i64 0, .bool false]

end Go.Proofs.Ytbkgipggblphlaa
