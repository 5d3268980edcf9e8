/- The place of the lowest bit, by the library's table. -/
import Derived.Test.YtnlcllhjhbaigaaDoorBitT
import Derived.Test.YtnlcllhjhbaigaaDoorBitA
namespace Go.Proofs.YtnlcllhjhbaigaaDoor
open Go Go.RowKit
attribute [local go_sem] Oper.semAt_some Grows wide_fn

/-- The library's table. -/
def deB : List Int := [0, 1, 56, 2, 57, 49, 28, 3, 61, 58, 42, 50, 38, 29, 17, 4, 62, 47, 59, 36, 45, 43, 51, 22, 53, 39, 33, 30, 24, 18, 12, 5, 63, 55, 48, 27, 60, 41, 37, 16, 46, 35, 44, 21, 52, 32, 23, 11, 54, 26, 40, 15, 34, 20, 31, 10, 25, 14, 19, 9, 13, 8, 7, 6]
/-- The world's first block holds it. -/
structure Tab (W : World) : Prop where
  lt : 0 < W.heap.size
  cell : ∀ i, i < 64 → W.cell? ⟨0, i, none⟩ = some (.int .u8 (deB.getD i 0))
theorem Tab.later {W W' : World} (h : Tab W) (hb : Below W.heap.size W W') : Tab W' := ⟨Nat.lt_of_lt_of_le h.lt hb.size, fun i hi => (hb.cell (p := ⟨0, i, none⟩) h.lt).trans (h.cell i hi)⟩
theorem Tab.below {W W' : World} {n : Nat} (h : Tab W) (hb : Below n W W') (hn : 0 < n) : Tab W' := ⟨Nat.lt_of_lt_of_le h.lt hb.size, fun i hi => (hb.cell (p := ⟨0, i, none⟩) hn).trans (h.cell i hi)⟩
theorem Tab.alloc {W : World} (h : Tab W) (o : Obj) : Tab (W.alloc o) := h.later ((Below.refl _ W).alloc (Nat.le_refl _) o)
theorem Tab.other {W : World} (h : Tab W) {p : Addr} (hp : 0 < p.block) (v : Value) : Tab (W.setCell p v) := h.below (n := 1) ((Below.refl 1 W).setCell hp v) (by omega)

theorem deB_fin : ∀ t : Fin 64, deB.getD (2 ^ t.val * 285870213051353865 % 18446744073709551616 / 288230376151711744) 0 = (t.val : Int) ∧ 2 ^ t.val * 285870213051353865 % 18446744073709551616 / 288230376151711744 < 64 := by decide +kernel
theorem deB_get (t : Nat) (ht : t < 64) : ∃ X I : Nat, 2 ^ t * 285870213051353865 % 18446744073709551616 = X ∧ X / 288230376151711744 = I ∧ I < 64 ∧ deB.getD I 0 = (t : Int) :=
  ⟨_, _, rfl, rfl, (deB_fin ⟨t, ht⟩).2, (deB_fin ⟨t, ht⟩).1⟩

set_option maxRecDepth 100000 in
theorem tz_walk (p t I : Nat) (N T X : Int) (h1 : IntKind.u64.wrap (-(p : Int)) = N) (h2 : bits .and .u64 (p : Int) N = T) (h3 : IntKind.u64.wrap (T * 285870213051353865) = X) (hI : X / 288230376151711744 = (I : Int)) (hI0 : (I : Int) < 64) (ht : (t : Int) < 64) (hp0 : (p : Int) ≠ 0)
    (w : World) (hc : w.cell? ⟨0, I, none⟩ = some (.int .u8 (t : Int))) : Calls Tryd.prog 64 #[.int .u64 (p : Int)] w fun e w' => e = .returned (.int .i64 (t : Int)) ∧ w' = w := by
  go_enter Tryd.func64, Tryd.ntmps64
  go_wp2
  go_ret
  exact ⟨rfl, rfl⟩

theorem tz_calls (p : Nat) (h0 : p ≠ 0) (hp : p < 18446744073709551616) (w : World) (hT : Tab w) : Calls Tryd.prog 64 #[.int .u64 (p : Int)] w fun e w' => e = .returned (.int .i64 (tz p : Int)) ∧ w' = w := by
  have ht : tz p < 64 := by obtain ⟨_, _, h⟩ := tz_split p h0 hp; exact h
  have ha := and_neg p h0 hp
  generalize tz p = t at *
  obtain ⟨X, I, hX, hI, hI0, hd⟩ := deB_get t ht
  have hc := hT.cell I hI0
  rw [hd] at hc
  refine tz_walk p t I ((18446744073709551616 - p : Nat) : Int) ((2 ^ t : Nat) : Int) (X : Int) ?_ ?_ ?_ (by omega) (by omega) (by omega) (by omega) w hc
  · rw [IntKind.wrap_u64]; omega
  · rw [bits_and_u64_nat _ _ hp (by omega), ha]
  · rw [IntKind.wrap_u64, ← hX]
    generalize 2 ^ t = P
    omega
end Go.Proofs.YtnlcllhjhbaigaaDoor
