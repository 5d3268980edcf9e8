/- The reference's slices of ints; bits and numbers of them. -/
import Derived.Test.YtnjmhcooejcehaaDoorShaP
import Derived.Test.YtnjmhcooejcehaaDoorRefD
import Derived.Maps.AppendAt
namespace Go.Proofs.YtnjmhcooejcehaaDoor
open Go Go.RowKit Go.Shelf
attribute [local go_sem] Oper.semAt_some Grows wide_fn

/-- Ints, as cells. -/
def inC (n : Nat) (A : Nat → Nat) : Array Value := ((List.range n).map fun i => Value.int .i64 ((A i : Nat) : Int)).toArray
theorem inC_size (n : Nat) (A : Nat → Nat) : (inC n A).size = n := by simp [inC]
theorem inC_get (n : Nat) (A : Nat → Nat) (j : Nat) (h : j < n) : (inC n A)[j]? = some (.int .i64 ((A j : Nat) : Int)) := by simp [inC, h]
theorem inC_congr (n : Nat) (A B : Nat → Nat) (h : ∀ j, j < n → A j = B j) : inC n A = inC n B := by
  unfold inC
  congr 1
  refine List.map_congr_left (fun i hi => ?_)
  rw [h i (List.mem_range.1 hi)]
theorem inC_set (n : Nat) (A B : Nat → Nat) (k v : Nat) (hB : ∀ j, j < n → B j = if j = k then v else A j) : (inC n A).setIfInBounds k (.int .i64 ((v : Nat) : Int)) = inC n B := by
  refine Array.ext (by simp [inC]) (fun i h1 h2 => ?_)
  have hi : i < n := by simpa [inC] using h2
  rw [Array.getElem_setIfInBounds (by simpa [inC] using hi)]
  simp only [inC, List.getElem_toArray, List.getElem_map, List.getElem_range]
  rw [hB i hi]
  by_cases e : k = i
  · rw [if_pos e, if_pos e.symm]
  · rw [if_neg e, if_neg (fun h => e h.symm)]
/-- A block that begins with so many ints. -/
def CellsAt (W : World) (g n : Nat) (A : Nat → Nat) : Prop := ∀ j, j < n → W.cell? ⟨g, j, none⟩ = some (.int .i64 ((A j : Nat) : Int))
theorem CellsAt.lt {W : World} {g n : Nat} {A : Nat → Nat} (h : CellsAt W g n A) (hn : 0 < n) : g < W.heap.size := lt_of_cell (h 0 hn)
theorem CellsAt.below {W X : World} {g n m : Nat} {A : Nat → Nat} (h : CellsAt W g n A) (hb : Below m W X) (hg : g < m) : CellsAt X g n A := fun j hj => (hb.cell (p := ⟨g, j, none⟩) hg).trans (h j hj)
theorem Has.cellsAt {W : World} {g n : Nat} {t : TypeId} {A : Nat → Nat} (h : Has W g t (inC n A)) : CellsAt W g n A := fun j hj => h.cell _ _ (inC_get n A j hj)
theorem made_inC (n : Nat) : madeCells #[.int .i64 0] n = inC n fun _ => 0 := by
  refine Array.ext (by simp [madeCells, inC]) (fun i h1 h2 => ?_)
  simp [madeCells, inC, Nat.mod_one]
theorem owns_below {w w' : World} {base : Nat} {e : TypeId} {size : Nat} {v : Value} {n : Nat} {xs : List Value} (h : w.ownsRow base e size v n xs) (hb : Below w.heap.size w w') : w'.ownsRow base e size v n xs :=
  h.kept (grown_of_below hb none) (by cases hv : v.ownBlock <;> simp)
theorem row_form {w : World} {base : Nat} {e : TypeId} {v : Value} {n : Nat} {xs : List Value} (h : w.ownsRow base e 1 v n xs) : ∃ o cap, v = .slice o n cap := by
  rcases h.2 with ⟨rfl, rfl⟩ | ⟨g, cap, _, rfl, _⟩
  · exact ⟨_, _, rfl⟩
  · exact ⟨_, _, rfl⟩
/-- So many ints. -/
def rowI (A : Nat → Nat) (k : Nat) : List Value := (List.range k).map fun j => Value.int .i64 ((A j : Nat) : Int)
theorem rowI_succ (A : Nat → Nat) (k : Nat) : rowI A (k + 1) = rowI A k ++ [.int .i64 ((A k : Nat) : Int)] := by simp [rowI, List.range_succ]
theorem owns_cells {w : World} {base : Nat} {v : Value} {n : Nat} {A : Nat → Nat} (hn : 0 < n) (h : w.ownsRow base 3 1 v n (rowI A n)) : ∃ g cap, v = .slice (some ⟨g, 0, none⟩) n cap ∧ base ≤ g ∧ g < w.heap.size ∧ CellsAt w g n A := by
  rcases h.2 with ⟨_, h0⟩ | ⟨g, cap, cur, rfl, hb, _⟩
  · omega
  · refine ⟨g, cap, rfl, hb, (h.lt g rfl).2, fun j hj => ?_⟩
    have hadd : (⟨g, 0, none⟩ : Addr).add j = ⟨g, j, none⟩ := by unfold Addr.add; split <;> simp_all
    rw [← hadd]
    refine h.cells (g := g) rfl j _ ?_
    unfold rowI
    rw [List.getElem?_map, List.getElem?_range hj]
    rfl

/-- A block of ints, whatever stands behind the first ones. -/
def RowAt (W : World) (g n : Nat) (A : Nat → Nat) : Prop := ∃ cur : Array Value, Has W g 3 cur ∧ ∀ j, j < n → cur[j]? = some (.int .i64 ((A j : Nat) : Int))
theorem RowAt.cellsAt {W : World} {g n : Nat} {A : Nat → Nat} (h : RowAt W g n A) : CellsAt W g n A := fun j hj => by
  obtain ⟨cur, hH, hc⟩ := h
  exact hH.cell j _ (hc j hj)
theorem RowAt.frozen {W : World} {g n : Nat} {A : Nat → Nat} (h : RowAt W g n A) (j : Nat) : W.frozen? ⟨g, j, none⟩ = false := by
  obtain ⟨cur, hH, _⟩ := h
  exact hH.frozen j
theorem RowAt.later {W X : World} {g n : Nat} {A : Nat → Nat} (h : RowAt W g n A) (hb : Below W.heap.size W X) : RowAt X g n A := by
  obtain ⟨cur, hH, hc⟩ := h
  exact ⟨cur, hH.later hb, hc⟩
theorem RowAt.lt {W : World} {g n : Nat} {A : Nat → Nat} (h : RowAt W g n A) : g < W.heap.size := by
  obtain ⟨cur, hH, _⟩ := h
  exact hH.lt
theorem RowAt.alloc {W : World} {g n : Nat} {A : Nat → Nat} (h : RowAt W g n A) (o : Obj) : RowAt (W.alloc o) g n A := h.later ((Below.refl _ W).alloc (Nat.le_refl _) o)
theorem RowAt.kept {W X : World} {row : Option Nat} {g n : Nat} {A : Nat → Nat} (h : RowAt W g n A) (hg : W.grownBy X row) (hne : some g ≠ row) : RowAt X g n A := by
  obtain ⟨cur, hH, hc⟩ := h
  exact ⟨cur, (hg.block g hH.lt hne).trans hH, hc⟩
theorem RowAt.set {W : World} {g n : Nat} {A B : Nat → Nat} (h : RowAt W g n A) (k v : Nat) (hB : ∀ j, j < n → B j = if j = k then v else A j) : RowAt (W.setCell ⟨g, k, none⟩ (.int .i64 ((v : Nat) : Int))) g n B := by
  obtain ⟨cur, hH, hc⟩ := h
  refine ⟨_, hH.set k _, fun j hj => ?_⟩
  rw [hB j hj]
  have hl : j < cur.size := by
    rcases Nat.lt_or_ge j cur.size with h' | h'
    · exact h'
    · have := hc j hj
      rw [Array.getElem?_eq_none h'] at this
      cases this
  by_cases e : j = k
  · subst e
    rw [if_pos rfl, Array.getElem?_setIfInBounds_self_of_lt hl]
  · rw [if_neg e, Array.getElem?_setIfInBounds_ne (fun h => e h.symm)]
    exact hc j hj
theorem RowAt.cut {W : World} {g n m : Nat} {A : Nat → Nat} (h : RowAt W g n A) (hm : m ≤ n) : RowAt W g m A := by
  obtain ⟨cur, hH, hc⟩ := h
  exact ⟨cur, hH, fun j hj => hc j (by omega)⟩
theorem RowAt.congr {W : World} {g n : Nat} {A B : Nat → Nat} (h : RowAt W g n A) (he : ∀ j, j < n → B j = A j) : RowAt W g n B := by
  obtain ⟨cur, hH, hc⟩ := h
  exact ⟨cur, hH, fun j hj => by rw [he j hj]; exact hc j hj⟩
theorem Has.rowAt {W : World} {g n : Nat} {A : Nat → Nat} (h : Has W g 3 (inC n A)) : RowAt W g n A := ⟨_, h, fun j hj => inC_get n A j hj⟩
theorem owns_row {w : World} {base : Nat} {v : Value} {n : Nat} {xs : List Value} (hn : 0 < n) (h : w.ownsRow base 3 1 v n xs) : ∃ g cap, v = .slice (some ⟨g, 0, none⟩) n cap ∧ base ≤ g ∧ n ≤ cap ∧ g < w.heap.size ∧ v.ownBlock = some g ∧
    ∀ A : Nat → Nat, xs = rowI A n → RowAt w g n A := by
  rcases h.2 with ⟨_, h0⟩ | ⟨g, cap, cur, rfl, hb, hg, hnc, _, _, ht⟩
  · omega
  · refine ⟨g, cap, rfl, hb, hnc, (h.lt g rfl).2, rfl, fun A hA => ⟨cur, hg, fun j hj => ?_⟩⟩
    have : xs[j]? = some (.int .i64 ((A j : Nat) : Int)) := by
      rw [hA]
      unfold rowI
      rw [List.getElem?_map, List.getElem?_range hj]
      rfl
    rw [← ht, List.getElem?_take, if_pos (by omega), Array.getElem?_toList] at this
    exact this
theorem cells_news {W : World} {g n : Nat} {A : Nat → Nat} (h : CellsAt W g n A) : ∀ (j : Nat) (u : Value), (rowI A n)[j]? = some u → W.cell? ((⟨g, 0, none⟩ : Addr).add j) = some u := fun j u hj => by
  have hadd : (⟨g, 0, none⟩ : Addr).add j = ⟨g, j, none⟩ := by unfold Addr.add; split <;> simp_all
  have hl : j < n := by
    rcases Nat.lt_or_ge j n with h' | h'
    · exact h'
    · rw [List.getElem?_eq_none (by simp [rowI]; omega)] at hj; cases hj
  unfold rowI at hj
  rw [List.getElem?_map, List.getElem?_range hl] at hj
  rw [hadd, h j hl, ← hj]
  rfl
theorem rowI_one (A : Nat → Nat) (n : Nat) : ∀ u ∈ rowI A n, u.oneCell' = true := by
  intro u hu
  unfold rowI at hu
  obtain ⟨j, _, rfl⟩ := List.mem_map.1 hu
  rfl
theorem rowI_length (A : Nat → Nat) (n : Nat) : (rowI A n).length = n := by simp [rowI]

/-- A bit, as a number. -/
def tb (x i : Nat) : Nat := (x.testBit i).toNat
theorem tb_eq (x i : Nat) : x / 2 ^ i % 2 = tb x i := by
  unfold tb
  rw [Nat.testBit_eq_decide_div_mod_eq]
  rcases Nat.mod_two_eq_zero_or_one (x / 2 ^ i) with h | h <;> simp [h]
theorem tb_xor (x y i : Nat) : tb (x ^^^ y) i = (tb x i + tb y i) % 2 := by
  unfold tb
  rw [Nat.testBit_xor]
  cases x.testBit i <;> cases y.testBit i <;> rfl
theorem tb_le (x i : Nat) : tb x i ≤ 1 := by unfold tb; cases x.testBit i <;> decide

theorem run_mkN (W : World) (n : Nat) (hn : n ≤ 1048576) : (Instr.makeSlice 36 (.int .i64 (n : Int)) (.int .i64 (n : Int))).run Tryd.prog W = .ok (.slice (some ⟨W.heap.size, 0, none⟩) n n) (W.alloc (.cells (inC n fun _ => 0) 3)) := by
  obtain ⟨i0, hi, hz0, hz1, hz2⟩ := info_parts infoI
  have h := run_make (P := Tryd.prog) W 36 3 i0 (.int .i64 0) Tryd.underlying36 hi hz0 .i64 .i64 (n : Int) (n : Int) (by omega) (by omega) (by rw [hz2]; omega) (by omega)
  rw [hz1, Nat.mul_one, Int.toNat_natCast, show Value.cells (.int .i64 0) = #[.int .i64 0] from rfl, made_inC] at h
  exact h
/-- A number's bits. -/
def b32 (n j : Nat) : Nat := tb n j
theorem b32_le (n j : Nat) : b32 n j ≤ 1 := tb_le n j
theorem b32_eq (n j : Nat) : n / 2 ^ j % 2 = b32 n j := tb_eq n j

set_option maxRecDepth 100000 in
set_option maxHeartbeats 8000000 in
theorem bits_any (n : Nat) (hn : n < 4294967296) (w : World) :
    Calls Tryd.prog 39 #[.int .i64 (n : Int)] w fun e w' => ∃ h c, e = .returned (.slice (some ⟨h, 0, none⟩) 32 c) ∧ w.heap.size ≤ h ∧ RowAt w' h 32 (b32 n) ∧ Below w.heap.size w w' := by
  have RN : w.ownsRow w.heap.size 3 1 (.slice none 0 0) 0 (rowI (b32 n) 0) := World.ownsRow_nil _ _ 3 1
  have HN := Lib.hid hn
  go_enter Tryd.func39, Tryd.ntmps39
  go_wp2_with fail
  go_loopw [0, 3, 4] (fun v t i wr => ∃ z : Nat, z ≤ 32 ∧ i = .int .i64 (z : Int) ∧ v = .int .i64 ((n / 2 ^ z : Nat) : Int) ∧ wr.ownsRow w.heap.size 3 1 t z (rowI (b32 n) z) ∧ Below w.heap.size w wr) (fun _ _ i _ => 32 - (intOf i).toNat)
  case atStart => exact ⟨0, by omega, rfl, by rw [Nat.pow_zero, Nat.div_one], RN, Below.refl _ w⟩
  case round =>
    clear RN
    obtain ⟨z, hz, rfl, rfl, R, Q⟩ := hrel
    by_cases hlt : z < 32
    · have hzI : (z : Int) < 32 := by omega
      have hz0 : (0 : Int) ≤ (z : Int) := by omega
      obtain ⟨o3, cap3, rfl⟩ := row_form R
      have hlz : n / 2 ^ z < 4294967296 := Nat.lt_of_le_of_lt (Nat.div_le_self _ _) hn
      have HS := Lib.hid (rowI_succ (b32 n) z)
      rw [← b32_eq] at HS
      have HN1 : Hid (n / 2 ^ (z + 1) = n / 2 ^ z / 2) := Lib.hid (by rw [Nat.pow_succ, ← Nat.div_div_eq_div_mul])
      generalize n / 2 ^ z = n0 at *
      have e1 : ((n0 : Nat) : Int).tmod 2 = ((n0 % 2 : Nat) : Int) := by rw [Int.tmod_eq_emod_of_nonneg (by omega)]; omega
      have e2 : ((n0 : Nat) : Int).tdiv 2 = ((n0 / 2 : Nat) : Int) := by rw [Int.tdiv_eq_ediv_of_nonneg (by omega)]; omega
      have hv1 : n0 % 2 ≤ 1 := by omega
      have hn1 : n0 / 2 < 4294967296 := by omega
      generalize n0 % 2 = b at *
      generalize n0 / 2 = n1 at *
      have hn1I : (n1 : Int) < 4294967296 := by omega
      have hn0I : (n0 : Int) < 4294967296 := by omega
      have hbI : (b : Int) ≤ 1 := by omega
      have HLT := Lib.hid hlt
      have HRow := Lib.hid R
      have HQ := Lib.hid Q
      obtain ⟨i0, hi, hz0', hz1, hz2⟩ := info_parts infoI
      clear R Q hz hlt hlz hv1 hn1
      go_wp2_with (at_builtin; refine wpList_append_own _ rfl _ _ 36 rfl w.heap.size 3 i0 (.int .i64 0) 1 8 Tryd.underlying36 hi hz0' hz1 hz2 rfl (by decide) _ _ _ rfl (HRow.out.alloc _) ⟨wr.heap.size, 0, none⟩ 1 1 [.int .i64 (b : Int)] rfl rfl (cell_one _ _ _) (by simp [Value.oneCell']) (by unfold maxLen; have := HLT.out; omega) (by have := HLT.out; omega) (by have := HQ.out.size; simp; omega) ?_; intro v' w3 hown' hgrow hnil)
      clear hi hz0' hz1 hz2
      go_wp2_with fail
      go_roundw
      case rel =>
        have hne := fun (r : Nat) e => ((HRow.out.alloc (.cells #[.int .i64 (b : Int)] 3)).lt r e).1
        have h1 := HLT.out
        refine ⟨z + 1, by omega, by simp, by rw [HN1.out], ?_, (HQ.out.alloc HQ.out.size _).grown hgrow (by have := HQ.out.size; simp; omega) (fun j e => by have := hne j e; omega)⟩
        rw [HS.out]
        exact hown'
      case measure => simp [intOf]; omega
    · obtain rfl : z = 32 := by omega
      obtain ⟨h, c, rfl, hb, _, _, _, hR⟩ := owns_row (by omega) R
      have HR := Lib.hid (hR (b32 n) rfl)
      have HQ := Lib.hid Q
      have HB := Lib.hid hb
      clear R Q hR
      go_wp2_with fail
      go_ret
      exact ⟨_, _, rfl, HB.out, HR.out, HQ.out⟩

set_option maxRecDepth 100000 in
set_option maxHeartbeats 8000000 in
theorem number_any (n g cap : Nat) (hn : n < 4294967296) (w : World) (hA : CellsAt w g 32 (b32 n)) :
    Calls Tryd.prog 40 #[.slice (some ⟨g, 0, none⟩) 32 cap] w fun e w' => e = .returned (.int .i64 (n : Int)) ∧ w' = w := by
  have HA := Lib.hid hA
  have H0 : Hid (n / 2 ^ 32 = 0) := Lib.hid (Nat.div_eq_of_lt hn)
  clear hA
  go_enter Tryd.func40, Tryd.ntmps40
  go_wp2_with fail
  go_loopw [3, 4] (fun v i wr => ∃ z : Nat, z ≤ 32 ∧ i = .int .i64 ((z : Int) - 1) ∧ v = .int .i64 ((n / 2 ^ z : Nat) : Int) ∧ wr = w) (fun _ i _ => (intOf i + 1).toNat)
  case atStart => exact ⟨32, by omega, rfl, by rw [H0.out]; rfl, rfl⟩
  case round =>
    obtain ⟨z, hz, rfl, rfl, rfl⟩ := hrel
    by_cases hz0 : 0 < z
    · obtain ⟨y, rfl⟩ : ∃ y, z = y + 1 := ⟨z - 1, by omega⟩
      have ez : ((y + 1 : Nat) : Int) - 1 = (y : Int) := by omega
      rw [ez]
      have hyI : (y : Int) < 32 := by omega
      have hy0 : (0 : Int) ≤ (y : Int) := by omega
      have ka := HA.out y (by omega)
      rw [← b32_eq] at ka
      have hq : n / 2 ^ y < 4294967296 := Nat.lt_of_le_of_lt (Nat.div_le_self _ _) hn
      have e1 : n / 2 ^ (y + 1) = n / 2 ^ y / 2 := by rw [Nat.pow_succ, ← Nat.div_div_eq_div_mul]
      rw [e1]
      clear e1
      generalize hm : n / 2 ^ y = m at *
      have HM := Lib.hid hm
      have es : 2 * ((m / 2 : Nat) : Int) + ((m % 2 : Nat) : Int) = (m : Int) := by omega
      have hmI : (m : Int) < 4294967296 := by omega
      have hhI : ((m / 2 : Nat) : Int) < 4294967296 := by omega
      have hbI : ((m % 2 : Nat) : Int) ≤ 1 := by omega
      clear hm hq hz hz0
      generalize m / 2 = mh at *
      generalize m % 2 = mb at *
      go_wp2_with fail
      go_roundw
      case rel => exact ⟨y, by omega, rfl, by rw [HM.out], by first | trivial | rfl⟩
      case measure => first | (simp [intOf]; done) | (simp [intOf]; omega)
    · obtain rfl : z = 0 := by omega
      simp only [Nat.pow_zero, Nat.div_one]
      go_wp2_with fail
      go_ret
      exact ⟨rfl, rfl⟩
end Go.Proofs.YtnjmhcooejcehaaDoor
