/- The reference's slices of 1600 bits; pi. -/
import Derived.Test.YtobdjakflknlcaaDoorKRefA
import Derived.Test.YtobdjakflknlcaaDoorKecH
namespace Go.Proofs.YtobdjakflknlcaaDoor
open Go Go.RowKit Go.Shelf
attribute [local go_sem] Oper.semAt_some Grows wide_fn field0

/-- Ints, as cells. -/
def inC (n : Nat) (A : Nat → Nat) : Array Value := ((List.range n).map fun i => Value.int .i64 ((A i : Nat) : Int)).toArray
theorem inC_size (n : Nat) (A : Nat → Nat) : (inC n A).size = n := by simp [inC]
theorem inC_get (n : Nat) (A : Nat → Nat) (j : Nat) (h : j < n) : (inC n A)[j]? = some (.int .i64 ((A j : Nat) : Int)) := by simp [inC, h]
theorem inC_congr (n : Nat) (A B : Nat → Nat) (h : ∀ j, j < n → A j = B j) : inC n A = inC n B := by
  unfold inC
  congr 1
  refine List.map_congr_left (fun i hi => ?_)
  rw [h i (List.mem_range.1 hi)]
theorem inC_set (n : Nat) (A B : Nat → Nat) (k v : Nat) (hB : ∀ j, j < n → B j = if j = k then v else A j) : (inC n A).setIfInBounds k (.int .i64 ((v : Nat) : Int)) = inC n B := by
  refine Array.ext (by simp [inC]) (fun i h1 h2 => ?_)
  have hi : i < n := by simpa [inC] using h2
  rw [Array.getElem_setIfInBounds (by simpa [inC] using hi)]
  simp only [inC, List.getElem_toArray, List.getElem_map, List.getElem_range]
  rw [hB i hi]
  by_cases e : k = i
  · rw [if_pos e, if_pos e.symm]
  · rw [if_neg e, if_neg (fun h => e h.symm)]
theorem ltOfCell {W : World} {b j : Nat} {v : Value} (h : W.cell? ⟨b, j, none⟩ = some v) : b < W.heap.size := by
  rcases Nat.lt_or_ge b W.heap.size with h' | h'
  · exact h'
  · simp [World.cell?, Array.getElem?_eq_none h'] at h
/-- A block that begins with so many ints. -/
def CellsAt (W : World) (g n : Nat) (A : Nat → Nat) : Prop := ∀ j, j < n → W.cell? ⟨g, j, none⟩ = some (.int .i64 ((A j : Nat) : Int))
theorem CellsAt.lt {W : World} {g n : Nat} {A : Nat → Nat} (h : CellsAt W g n A) (hn : 0 < n) : g < W.heap.size := ltOfCell (h 0 hn)
theorem CellsAt.below {W X : World} {g n m : Nat} {A : Nat → Nat} (h : CellsAt W g n A) (hb : Below m W X) (hg : g < m) : CellsAt X g n A := fun j hj => (hb.cell (p := ⟨g, j, none⟩) hg).trans (h j hj)
theorem Has.cellsAt {W : World} {g n : Nat} {t : TypeId} {A : Nat → Nat} (h : Has W g t (inC n A)) : CellsAt W g n A := fun j hj => h.cell _ _ (inC_get n A j hj)
theorem made_inC (n : Nat) : madeCells #[.int .i64 0] n = inC n fun _ => 0 := by
  refine Array.ext (by simp [madeCells, inC]) (fun i h1 h2 => ?_)
  simp [madeCells, inC, Nat.mod_one]
theorem infoI : (Tryd.prog.info? 3).map (fun i => (i.zero, i.size, i.bytes)) = some (some (.int .i64 0), 1, 8) := by kernel_rfl
theorem run_mkI (W : World) : (Instr.makeSlice 39 (.int .i64 1600) (.int .i64 1600)).run Tryd.prog W = .ok (.slice (some ⟨W.heap.size, 0, none⟩) 1600 1600) (W.alloc (.cells (inC 1600 fun _ => 0) 3)) := by
  obtain ⟨i0, hi, hz0, hz1, hz2⟩ := info_parts infoI
  have h := run_make (P := Tryd.prog) W 39 3 i0 (.int .i64 0) Tryd.underlying39 hi hz0 .i64 .i64 1600 1600 (by omega) (by omega) (by rw [hz2]; omega) (by omega)
  rw [hz1, Nat.mul_one, show Value.cells (.int .i64 0) = #[.int .i64 0] from rfl, made_inC] at h
  exact h

/-- What is made of the places that are over. -/
def doneN (F L : Nat → Nat) (k j : Nat) : Nat := if L j < k then F j else 0
theorem doneN_zero (F L : Nat → Nat) (n : Nat) : inC n (doneN F L 0) = inC n fun _ => 0 := inC_congr _ _ _ (fun j _ => if_neg (by omega))
theorem doneN_all (F L : Nat → Nat) (n k : Nat) (h : ∀ j, j < n → L j < k) : inC n (doneN F L k) = inC n F := inC_congr _ _ _ (fun j hj => if_pos (h j hj))
theorem doneN_set (F L : Nat → Nat) (n k p : Nat) (hp : L p = k) (hi : ∀ j, j < n → L j = k → j = p) : ∀ j, j < n → doneN F L (k + 1) j = if j = p then F p else doneN F L k j := fun j hj => by
  unfold doneN
  by_cases e : j = p
  · rw [if_pos e, e, if_pos (by omega)]
  · rw [if_neg e]
    have hk : L j ≠ k := fun h => e (hi j hj h)
    by_cases h2 : L j < k
    · rw [if_pos (by omega), if_pos h2]
    · rw [if_neg (by omega), if_neg h2]
/-- When a place comes up: by column, row, bit. -/
def lxy (j : Nat) : Nat := (j / 64 % 5 * 5 + j / 320) * 64 + j % 64
theorem lxy_at (x y z : Nat) (hx : x < 5) (hy : y < 5) (hz : z < 64) : lxy (64 * (5 * y + x) + z) = (x * 5 + y) * 64 + z := by unfold lxy; omega
theorem lxy_inj (x y z j : Nat) (hx : x < 5) (hy : y < 5) (hz : z < 64) (hj : j < 1600) (h : lxy j = (x * 5 + y) * 64 + z) : j = 64 * (5 * y + x) + z := by
  unfold lxy at h
  have h1 : j / 320 < 5 := by omega
  have h2 : j / 64 = 5 * (j / 320) + j / 64 % 5 := by omega
  have h3 : j = 64 * (j / 64) + j % 64 := by omega
  have h4 : j % 64 < 64 := Nat.mod_lt _ (by omega)
  have h5 : j / 64 % 5 < 5 := Nat.mod_lt _ (by omega)
  generalize j / 320 = Y at *
  generalize j / 64 % 5 = X at *
  generalize j / 64 = J at *
  generalize j % 64 = Z at *
  have h6 : X * 5 + Y = x * 5 + y := by omega
  have h7 : X = x := by omega
  have h8 : Y = y := by omega
  omega
theorem lxy_lt (j : Nat) (hj : j < 1600) : lxy j < 1600 := by
  unfold lxy
  have h1 : j / 320 < 5 := by omega
  have h4 : j % 64 < 64 := Nat.mod_lt _ (by omega)
  have h5 : j / 64 % 5 < 5 := Nat.mod_lt _ (by omega)
  omega
theorem at_nat (x y z : Int) (p : Nat) (hx : -5 ≤ x ∧ x < 100) (hy : -5 ≤ y ∧ y < 100) (hz : -64 ≤ z ∧ z < 1000) (hp : atN x y z = (p : Int)) : Ret Tryd.prog 31 #[.int .i64 x, .int .i64 y, .int .i64 z] (.int .i64 (p : Int)) :=
  (at_ret x y z hx hy hz).of_eq rfl (by rw [hp])
/-- The reference's pi. -/
def piN (A : Nat → Nat) (j : Nat) : Nat := A (64 * (5 * (j / 64 % 5) + (j / 64 % 5 + 3 * (j / 320)) % 5) + j % 64)
theorem piN_at (A : Nat → Nat) (x y z : Nat) (hx : x < 5) (hy : y < 5) (hz : z < 64) : piN A (64 * (5 * y + x) + z) = A (64 * (5 * x + (x + 3 * y) % 5) + z) := by
  unfold piN
  rw [show (64 * (5 * y + x) + z) / 64 % 5 = x by omega, show (64 * (5 * y + x) + z) / 320 = y by omega, show (64 * (5 * y + x) + z) % 64 = z by omega]
/-- The reference's chi. -/
def chiN (A : Nat → Nat) (j : Nat) : Nat := (A j + (A (64 * (5 * (j / 320) + (j / 64 % 5 + 1) % 5) + j % 64) + 1) % 2 * A (64 * (5 * (j / 320) + (j / 64 % 5 + 2) % 5) + j % 64)) % 2
theorem chiN_at (A : Nat → Nat) (x y z : Nat) (hx : x < 5) (hy : y < 5) (hz : z < 64) : chiN A (64 * (5 * y + x) + z) = (A (64 * (5 * y + x) + z) + (A (64 * (5 * y + (x + 1) % 5) + z) + 1) % 2 * A (64 * (5 * y + (x + 2) % 5) + z)) % 2 := by
  unfold chiN
  rw [show (64 * (5 * y + x) + z) / 64 % 5 = x by omega, show (64 * (5 * y + x) + z) / 320 = y by omega, show (64 * (5 * y + x) + z) % 64 = z by omega]

set_option maxRecDepth 100000 in
set_option maxHeartbeats 4000000 in
theorem pi_calls (g cap : Nat) (A : Nat → Nat) (w : World) (hA : CellsAt w g 1600 A) :
    Calls Tryd.prog 18 #[.slice (some ⟨g, 0, none⟩) 1600 cap] w fun e w' => e = .returned (.slice (some ⟨w.heap.size, 0, none⟩) 1600 1600) ∧ Has w' w.heap.size 3 (inC 1600 (piN A)) ∧ Below w.heap.size w w' := by
  have hg := hA.lt (by omega)
  have hmx : Tryd.prog.follows .mixedOrders = true := by kernel_rfl
  have HA := Lib.hid hA
  clear hA
  have hmk := run_mkI w
  have LM := Has.new w 3 (inC 1600 fun _ => 0)
  have Q := (Below.refl w.heap.size w).alloc (Nat.le_refl _) (.cells (inC 1600 fun _ => 0) 3)
  rw [← doneN_zero (piN A) lxy] at LM Q hmk
  obtain ⟨W1, hW1⟩ : ∃ W1, w.alloc (.cells (inC 1600 (doneN (piN A) lxy 0)) 3) = W1 := ⟨_, rfl⟩
  rw [hW1] at hmk LM Q
  clear hW1
  go_enter Tryd.func18, Tryd.ntmps18
  go_wp2_with fail
  clear hmk
  go_loopw [4] (fun i wr => ∃ x : Nat, x ≤ 5 ∧ i = .int .i64 (x : Int) ∧ Has wr w.heap.size 3 (inC 1600 (doneN (piN A) lxy (x * 320))) ∧ Below w.heap.size w wr) (fun i _ => 5 - (intOf i).toNat)
  case atStart => exact ⟨0, by omega, rfl, LM, Q⟩
  case round =>
    clear LM Q
    obtain ⟨x, hx, rfl, L, Q⟩ := hrel
    by_cases hx5 : x < 5
    · have hxI : (x : Int) < 5 := by omega
      have hx0 : (0 : Int) ≤ (x : Int) := by omega
      go_wp2_with fail
      go_loopw [5] (fun i wr => ∃ y : Nat, y ≤ 5 ∧ i = .int .i64 (y : Int) ∧ Has wr w.heap.size 3 (inC 1600 (doneN (piN A) lxy ((x * 5 + y) * 64))) ∧ Below w.heap.size w wr) (fun i _ => 5 - (intOf i).toNat)
      case atStart => exact ⟨0, by omega, rfl, by rw [show (x * 5 + 0) * 64 = x * 320 by omega]; exact L, Q⟩
      case round =>
        clear L Q
        obtain ⟨y, hy, rfl, L, Q⟩ := hrel
        by_cases hy5 : y < 5
        · have hyI : (y : Int) < 5 := by omega
          have hy0 : (0 : Int) ≤ (y : Int) := by omega
          go_wp2_with fail
          go_loopw [6] (fun i wr => ∃ z : Nat, z ≤ 64 ∧ i = .int .i64 (z : Int) ∧ Has wr w.heap.size 3 (inC 1600 (doneN (piN A) lxy ((x * 5 + y) * 64 + z))) ∧ Below w.heap.size w wr) (fun i _ => 64 - (intOf i).toNat)
          case atStart => exact ⟨0, by omega, rfl, L, Q⟩
          case round =>
            clear L Q
            obtain ⟨z, hz, rfl, L, Q⟩ := hrel
            by_cases hz6 : z < 64
            · have hzI : (z : Int) < 64 := by omega
              have hz0 : (0 : Int) ≤ (z : Int) := by omega
              have hp : 64 * (5 * y + x) + z < 1600 := by omega
              have HS := Lib.hid (doneN_set (piN A) lxy 1600 ((x * 5 + y) * 64 + z) (64 * (5 * y + x) + z) (lxy_at x y z hx5 hy5 hz6) (fun j hj h => lxy_inj x y z j hx5 hy5 hz6 hj h))
              have HV := Lib.hid (piN_at A x y z hx5 hy5 hz6)
              have AP := Lib.hid (at_nat (x : Int) (y : Int) (z : Int) (64 * (5 * y + x) + z) (by omega) (by omega) (by omega) (by unfold atN; omega))
              have e3 : ((x : Int) + 3 * (y : Int)).tmod 5 = (((x + 3 * y) % 5 : Nat) : Int) := by rw [Int.tmod_eq_emod_of_nonneg (by omega)]; omega
              have hq5 : (x + 3 * y) % 5 < 5 := Nat.mod_lt _ (by omega)
              generalize (x + 3 * y) % 5 = q at *
              have hqI : (q : Int) < 5 := by omega
              have AQ := Lib.hid (at_nat (q : Int) (x : Int) (z : Int) (64 * (5 * x + q) + z) (by omega) (by omega) (by omega) (by unfold atN; omega))
              have hb : 64 * (5 * x + q) + z < 1600 := by omega
              have ka := HA.out (64 * (5 * x + q) + z) hb
              have HLT := Lib.hid hz6
              have HL := Lib.hid L
              have HQ := Lib.hid Q
              clear L Q hx hy hz hz6
              generalize 64 * (5 * x + q) + z = b at *
              generalize 64 * (5 * y + x) + z = p at *
              have hpI : (p : Int) < 1600 := by omega
              have hbI : (b : Int) < 1600 := by omega
              rw [HV.out] at HS
              go_wp2_with fail
              refine (AP.out _).mono ?_
              rintro e w2 ⟨rfl, q2⟩
              replace HL := Lib.hid (HL.out.later q2)
              replace HQ := Lib.hid (HQ.out.trans (q2.mono HQ.out.size))
              clear q2
              go_wp2_with fail
              refine (AQ.out _).mono ?_
              rintro e w3 ⟨rfl, q3⟩
              replace HL := Lib.hid (HL.out.later q3)
              replace HQ := Lib.hid (HQ.out.trans (q3.mono HQ.out.size))
              clear q3
              have kb : w3.cell? ⟨g, b, none⟩ = some (.int .i64 ((A b : Nat) : Int)) := (HQ.out.cell (p := ⟨g, b, none⟩) hg).trans ka
              have kc := HL.out.cell _ _ (inC_get 1600 _ p hp)
              have kz := HL.out.frozen p
              have L1 := HL.out.set p (.int .i64 ((A b : Nat) : Int))
              rw [inC_set 1600 _ (doneN (piN A) lxy ((x * 5 + y) * 64 + z + 1)) p _ HS.out] at L1
              have N1 := Lib.hid L1
              have N2 := Lib.hid (HQ.out.setCell (p := ⟨w.heap.size, p, none⟩) (Nat.le_refl _) (.int .i64 ((A b : Nat) : Int)))
              clear L1 ka HL HQ HS HV
              generalize A b = v at *
              go_wp2_with fail
              go_roundw
              case rel => exact ⟨z + 1, by have := HLT.out; omega, by simp, N1.out, N2.out⟩
              case measure => simp [intOf]; omega
            · obtain rfl : z = 64 := by omega
              simp only [Int.cast_ofNat_Int]
              have HL := Lib.hid L
              have HQ := Lib.hid Q
              clear L Q
              go_wp2_with fail
              go_roundw
              case rel => exact ⟨y + 1, by omega, by simp, by rw [show (x * 5 + (y + 1)) * 64 = (x * 5 + y) * 64 + 64 by omega]; exact HL.out, HQ.out⟩
              case measure => simp [intOf]; omega
        · obtain rfl : y = 5 := by omega
          simp only [Int.cast_ofNat_Int]
          have HL := Lib.hid L
          have HQ := Lib.hid Q
          clear L Q
          go_wp2_with fail
          go_roundw
          case rel => exact ⟨x + 1, by omega, by simp, by rw [show (x + 1) * 320 = (x * 5 + 5) * 64 by omega]; exact HL.out, HQ.out⟩
          case measure => simp [intOf]; omega
    · obtain rfl : x = 5 := by omega
      rw [doneN_all (piN A) lxy 1600 (5 * 320) (fun j hj => lxy_lt j hj)] at L
      have HL := Lib.hid L
      have HQ := Lib.hid Q
      clear L Q
      go_wp2_with fail
      go_ret
      exact ⟨rfl, HL.out, HQ.out⟩
end Go.Proofs.YtobdjakflknlcaaDoor
