/- The reference's place of a bit among 1600. -/
import Derived.Test.YtobdjakflknlcaaDoorKecA
namespace Go.Proofs.YtobdjakflknlcaaDoor
open Go Go.RowKit
attribute [local go_sem] Oper.semAt_some Grows

set_option maxRecDepth 100000 in
set_option maxHeartbeats 2000000 in
theorem at_some (x y z p q r : Int) (hx : -5 ≤ x ∧ x < 100) (hy : -5 ≤ y ∧ y < 100) (hz : -64 ≤ z ∧ z < 1000) (hp : (y + 5).tmod 5 = p) (hq : (x + 5).tmod 5 = q) (hr : (z + 64).tmod 64 = r) (hp1 : 0 ≤ p ∧ p < 5) (hq1 : 0 ≤ q ∧ q < 5) (hr1 : 0 ≤ r ∧ r < 64) :
    Ret Tryd.prog 31 #[.int .i64 x, .int .i64 y, .int .i64 z] (.int .i64 (64 * (5 * p + q) + r)) := by
  intro w
  obtain ⟨hx0, hx1⟩ := hx
  obtain ⟨hy0, hy1⟩ := hy
  obtain ⟨hz0, hz1⟩ := hz
  obtain ⟨hp0, hp2⟩ := hp1
  obtain ⟨hq0, hq2⟩ := hq1
  obtain ⟨hr0, hr2⟩ := hr1
  go_enter Tryd.func31, Tryd.ntmps31
  go_wp2
  go_ret
  exact ⟨rfl, Below.refl _ w⟩
/-- The place of a bit. -/
def atN (x y z : Int) : Int := 64 * (5 * ((y + 5) % 5) + (x + 5) % 5) + (z + 64) % 64
theorem at_ret (x y z : Int) (hx : -5 ≤ x ∧ x < 100) (hy : -5 ≤ y ∧ y < 100) (hz : -64 ≤ z ∧ z < 1000) : Ret Tryd.prog 31 #[.int .i64 x, .int .i64 y, .int .i64 z] (.int .i64 (atN x y z)) :=
  at_some x y z _ _ _ hx hy hz (Int.tmod_eq_emod_of_nonneg (by omega)) (Int.tmod_eq_emod_of_nonneg (by omega)) (Int.tmod_eq_emod_of_nonneg (by omega)) ⟨by omega, by omega⟩ ⟨by omega, by omega⟩ ⟨by omega, by omega⟩
theorem atN_lt (x y z : Int) : 0 ≤ atN x y z ∧ atN x y z < 1600 := by unfold atN; omega
end Go.Proofs.YtobdjakflknlcaaDoor
