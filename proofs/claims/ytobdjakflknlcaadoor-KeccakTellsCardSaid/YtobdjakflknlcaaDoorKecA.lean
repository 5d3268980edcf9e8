/- Lanes in blocks, and the small functions of package keccak: lane, beside, next, RotateLeft64. -/
import Derived.Test.YtobdjakflknlcaaDoorKecM
import Derived.Laws.Bits64
import Derived.Laws.Bits64b
namespace Go.Proofs.YtobdjakflknlcaaDoor
open Go Go.RowKit
attribute [local go_sem] Oper.semAt_some Grows wide_fn

/-- Numbers of 64 bits, as cells. -/
def luC (n : Nat) (A : Nat → Nat) : Array Value := ((List.range n).map fun i => Value.int .u64 ((A i : Nat) : Int)).toArray
theorem luC_size (n : Nat) (A : Nat → Nat) : (luC n A).size = n := by simp [luC]
theorem luC_get (n : Nat) (A : Nat → Nat) (j : Nat) (h : j < n) : (luC n A)[j]? = some (.int .u64 ((A j : Nat) : Int)) := by simp [luC, h]
theorem luC_congr (n : Nat) (A B : Nat → Nat) (h : ∀ j, j < n → A j = B j) : luC n A = luC n B := by
  unfold luC
  congr 1
  refine List.map_congr_left (fun i hi => ?_)
  rw [h i (List.mem_range.1 hi)]
theorem luC_set (n : Nat) (A B : Nat → Nat) (k v : Nat) (hB : ∀ j, j < n → B j = if j = k then v else A j) : (luC n A).setIfInBounds k (.int .u64 ((v : Nat) : Int)) = luC n B := by
  refine Array.ext (by simp [luC]) (fun i h1 h2 => ?_)
  have hi : i < n := by simpa [luC] using h2
  rw [Array.getElem_setIfInBounds (by simpa [luC] using hi)]
  simp only [luC, List.getElem_toArray, List.getElem_map, List.getElem_range]
  rw [hB i hi]
  by_cases e : k = i
  · rw [if_pos e, if_pos e.symm]
  · rw [if_neg e, if_neg (fun h => e h.symm)]

theorem lane_ret (x y : Int) (hx : 0 ≤ x ∧ x < 5) (hy : 0 ≤ y ∧ y < 5) : Ret Tryd.prog 26 #[.agg #[.int .u64 x, .int .u64 y]] (.int .u64 (5 * y + x)) := by
  intro w
  obtain ⟨x0, x1⟩ := hx
  obtain ⟨y0, y1⟩ := hy
  have L := Has.new w 52 #[.int .u64 x, .int .u64 y]
  have Q := (Below.refl w.heap.size w).alloc (Nat.le_refl _) (.cells #[.int .u64 x, .int .u64 y] 52)
  have k0 := L.cell 0 _ rfl
  have k1 := L.cell 1 _ rfl
  clear L
  go_enter Tryd.func26, Tryd.ntmps26
  go_wp2
  go_ret
  exact ⟨rfl, Q⟩

theorem results_place {fn : Func} {t : Tmp} {tmps : Array Value} {W : World} {B : Nat} {x y : Int} (h : fn.results = #[ResultVar.cell t 52]) (ht : tmps.getD t undef = .pointer (some ⟨B, 0, none⟩)) (hA : Has W B 52 #[.int .u64 x, .int .u64 y]) :
    (results fn tmps).run Tryd.prog W = .ok (.agg #[.int .u64 x, .int .u64 y]) W := by
  have e0 := hA.cell 0 _ rfl
  have e1 := hA.cell 1 _ rfl
  simp at ht
  simp [results, h, ht, go_sem, e0, e1]

theorem next_ret (x y : Int) (hx : 0 ≤ x ∧ x < 5) (hy : 0 ≤ y ∧ y < 5) : Ret Tryd.prog 30 #[.agg #[.int .u64 x, .int .u64 y]] (.agg #[.int .u64 y, .int .u64 ((2 * x + 3 * y) % 5)]) := by
  intro w
  obtain ⟨x0, x1⟩ := hx
  obtain ⟨y0, y1⟩ := hy
  have e := Int.tmod_eq_emod_of_nonneg (show 0 ≤ 2 * x + 3 * y by omega) (b := 5)
  have h0 := Int.emod_nonneg (2 * x + 3 * y) (show (5 : Int) ≠ 0 by omega)
  have h1 := Int.emod_lt_of_pos (2 * x + 3 * y) (show (0 : Int) < 5 by omega)
  have L := (Has.new w 52 #[.int .u64 x, .int .u64 y]).alloc (.cells #[.int .u64 0, .int .u64 0] 52)
  have R := Has.new (w.alloc (.cells #[.int .u64 x, .int .u64 y] 52)) 52 #[.int .u64 0, .int .u64 0]
  have R2 := Has.new (w.alloc (.cells #[.int .u64 x, .int .u64 y] 52)) 52 #[.int .u64 y, .int .u64 ((2 * x + 3 * y) % 5)]
  simp only [World.size_alloc] at R R2
  have HR := Lib.hid R2
  have HQ := Lib.hid (((Below.refl w.heap.size w).alloc (Nat.le_refl _) (.cells #[.int .u64 x, .int .u64 y] 52)).alloc (by simp) (.cells #[.int .u64 y, .int .u64 ((2 * x + 3 * y) % 5)] 52))
  have k0 := L.cell 0 _ rfl
  have k1 := L.cell 1 _ rfl
  have r0 := R.cell 0 _ rfl
  have r1 := R.cell 1 _ rfl
  have z0 := R.frozen 0
  have z1 := R.frozen 1
  clear L R R2
  go_enter Tryd.func30, Tryd.ntmps30
  go_wp2
  refine bodyPost_ret (results_place rfl rfl HR.out) rfl ⟨rfl, HQ.out⟩

def besI (x on : Int) : Int := if x + on < 5 then x + on else x + on - 5
theorem beside_ret (x y on : Int) (hx : 0 ≤ x ∧ x < 5) (ho : 0 ≤ on ∧ on < 5) : Ret Tryd.prog 27 #[.agg #[.int .u64 x, .int .u64 y], .int .u64 on] (.agg #[.int .u64 (besI x on), .int .u64 y]) := by
  intro w
  obtain ⟨x0, x1⟩ := hx
  obtain ⟨o0, o1⟩ := ho
  have L := (Has.new w 52 #[.int .u64 x, .int .u64 y]).alloc (.cells #[.int .u64 0, .int .u64 0] 52)
  have R := Has.new (w.alloc (.cells #[.int .u64 x, .int .u64 y] 52)) 52 #[.int .u64 0, .int .u64 0]
  have R2 := Has.new (w.alloc (.cells #[.int .u64 x, .int .u64 y] 52)) 52 #[.int .u64 (besI x on), .int .u64 y]
  simp only [World.size_alloc] at R R2
  have HR := Lib.hid R2
  have HQ := Lib.hid (((Below.refl w.heap.size w).alloc (Nat.le_refl _) (.cells #[.int .u64 x, .int .u64 y] 52)).alloc (by simp) (.cells #[.int .u64 (besI x on), .int .u64 y] 52))
  have k0 := L.cell 0 _ rfl
  have k1 := L.cell 1 _ rfl
  have r0 := R.cell 0 _ rfl
  have r1 := R.cell 1 _ rfl
  have z0 := R.frozen 0
  have z1 := R.frozen 1
  clear L R R2
  by_cases h : x + on < 5
  · have e : besI x on = x + on := if_pos h
    rw [e] at HR HQ ⊢
    go_enter Tryd.func27, Tryd.ntmps27
    go_wp2
    refine bodyPost_ret (results_place rfl rfl HR.out) rfl ⟨rfl, HQ.out⟩
  · have e : besI x on = x + on - 5 := if_neg h
    rw [e] at HR HQ ⊢
    go_enter Tryd.func27, Tryd.ntmps27
    go_wp2
    refine bodyPost_ret (results_place rfl rfl HR.out) rfl ⟨rfl, HQ.out⟩

theorem rot_walk (x k s : Int) (u v r : Int) (hs : bits .and .u64 k 63 = s) (hs0 : 0 ≤ s ∧ s < 64) (hk : 0 ≤ k ∧ k < 9223372036854775808) (hu : IntKind.u64.wrap (x * 2 ^ s.toNat) = u) (hv : x / 2 ^ (64 - s).toNat = v) (hr : bits .or .u64 u v = r) :
    Ret Tryd.prog 28 #[.int .u64 x, .int .i64 k] (.int .u64 r) := by
  refine Ret.of_same fun w => ?_
  obtain ⟨s0, s1⟩ := hs0
  obtain ⟨k0, k1⟩ := hk
  go_enter Tryd.func28, Tryd.ntmps28
  go_wp2
  go_ret
  exact ⟨rfl, rfl⟩
end Go.Proofs.YtobdjakflknlcaaDoor
