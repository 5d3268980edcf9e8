/- A block's words. For all bytes. -/
import Derived.Test.YtnjmhcooejcehaaDoorShaB
namespace Go.Proofs.YtnjmhcooejcehaaDoor
open Go Go.RowKit Go.Shelf
attribute [local go_sem] Oper.semAt_some Grows wide_fn

theorem lt_of_cell {W : World} {b j : Nat} {v : Value} (h : W.cell? ⟨b, j, none⟩ = some v) : b < W.heap.size := by
  rcases Nat.lt_or_ge b W.heap.size with h' | h'
  · exact h'
  · simp [World.cell?, Array.getElem?_eq_none h'] at h
theorem scK_zero (D : Nat → Nat) : ∀ k j, k ≤ 4 * j → scK D k j = 0
  | 0, j, _ => rfl
  | k + 1, j, h => by
    unfold scK
    rw [if_neg (by omega)]
    exact scK_zero D k j (by omega)
/-- The words behind the words to i. -/
def exN (D : Nat → Nat) (i j : Nat) : Nat := if j < i then wdN D j else 0
theorem exN_lt (D : Nat → Nat) (hD : ∀ j, D j < 256) (i j : Nat) : exN D i j < 2 ^ 32 := by
  unfold exN
  split
  · exact wdN_lt D hD j
  · decide
theorem zeros64 : (#[.int .u32 0, .int .u32 0, .int .u32 0, .int .u32 0, .int .u32 0, .int .u32 0, .int .u32 0, .int .u32 0, .int .u32 0, .int .u32 0, .int .u32 0, .int .u32 0, .int .u32 0, .int .u32 0, .int .u32 0, .int .u32 0, .int .u32 0, .int .u32 0, .int .u32 0, .int .u32 0, .int .u32 0, .int .u32 0, .int .u32 0, .int .u32 0, .int .u32 0, .int .u32 0, .int .u32 0, .int .u32 0, .int .u32 0, .int .u32 0, .int .u32 0, .int .u32 0, .int .u32 0, .int .u32 0, .int .u32 0, .int .u32 0, .int .u32 0, .int .u32 0, .int .u32 0, .int .u32 0, .int .u32 0, .int .u32 0, .int .u32 0, .int .u32 0, .int .u32 0, .int .u32 0, .int .u32 0, .int .u32 0, .int .u32 0, .int .u32 0, .int .u32 0, .int .u32 0, .int .u32 0, .int .u32 0, .int .u32 0, .int .u32 0, .int .u32 0, .int .u32 0, .int .u32 0, .int .u32 0, .int .u32 0, .int .u32 0, .int .u32 0, .int .u32 0] : Array Value) = arC 64 fun _ => 0 := rfl

set_option maxRecDepth 100000 in
set_option maxHeartbeats 4000000 in
theorem schedule_calls (g o : Nat) (D : Nat → Nat) (hD : ∀ j, D j < 256) (w : World) (hc : ∀ j, j < 64 → w.cell? ⟨g, o + j, none⟩ = some (.int .u8 ((D j : Nat) : Int))) :
    Calls Tryd.prog 20 #[.slice (some ⟨g, o, none⟩) 64 64] w fun e w' => e = .returned (.agg (arC 64 (wdN D))) ∧ Below w.heap.size w w' := by
  have hgl := lt_of_cell (hc 0 (by omega))
  have hmx : Tryd.prog.follows .mixedOrders = true := by kernel_rfl
  have LR := (Has.new w 52 #[.int .u32 0, .int .u32 0, .int .u32 0, .int .u32 0, .int .u32 0, .int .u32 0, .int .u32 0, .int .u32 0, .int .u32 0, .int .u32 0, .int .u32 0, .int .u32 0, .int .u32 0, .int .u32 0, .int .u32 0, .int .u32 0, .int .u32 0, .int .u32 0, .int .u32 0, .int .u32 0, .int .u32 0, .int .u32 0, .int .u32 0, .int .u32 0, .int .u32 0, .int .u32 0, .int .u32 0, .int .u32 0, .int .u32 0, .int .u32 0, .int .u32 0, .int .u32 0, .int .u32 0, .int .u32 0, .int .u32 0, .int .u32 0, .int .u32 0, .int .u32 0, .int .u32 0, .int .u32 0, .int .u32 0, .int .u32 0, .int .u32 0, .int .u32 0, .int .u32 0, .int .u32 0, .int .u32 0, .int .u32 0, .int .u32 0, .int .u32 0, .int .u32 0, .int .u32 0, .int .u32 0, .int .u32 0, .int .u32 0, .int .u32 0, .int .u32 0, .int .u32 0, .int .u32 0, .int .u32 0, .int .u32 0, .int .u32 0, .int .u32 0, .int .u32 0]).alloc (.cells #[.int .u32 0, .int .u32 0, .int .u32 0, .int .u32 0, .int .u32 0, .int .u32 0, .int .u32 0, .int .u32 0, .int .u32 0, .int .u32 0, .int .u32 0, .int .u32 0, .int .u32 0, .int .u32 0, .int .u32 0, .int .u32 0, .int .u32 0, .int .u32 0, .int .u32 0, .int .u32 0, .int .u32 0, .int .u32 0, .int .u32 0, .int .u32 0, .int .u32 0, .int .u32 0, .int .u32 0, .int .u32 0, .int .u32 0, .int .u32 0, .int .u32 0, .int .u32 0, .int .u32 0, .int .u32 0, .int .u32 0, .int .u32 0, .int .u32 0, .int .u32 0, .int .u32 0, .int .u32 0, .int .u32 0, .int .u32 0, .int .u32 0, .int .u32 0, .int .u32 0, .int .u32 0, .int .u32 0, .int .u32 0, .int .u32 0, .int .u32 0, .int .u32 0, .int .u32 0, .int .u32 0, .int .u32 0, .int .u32 0, .int .u32 0, .int .u32 0, .int .u32 0, .int .u32 0, .int .u32 0, .int .u32 0, .int .u32 0, .int .u32 0, .int .u32 0] 52)
  have LA := Has.new (w.alloc (.cells #[.int .u32 0, .int .u32 0, .int .u32 0, .int .u32 0, .int .u32 0, .int .u32 0, .int .u32 0, .int .u32 0, .int .u32 0, .int .u32 0, .int .u32 0, .int .u32 0, .int .u32 0, .int .u32 0, .int .u32 0, .int .u32 0, .int .u32 0, .int .u32 0, .int .u32 0, .int .u32 0, .int .u32 0, .int .u32 0, .int .u32 0, .int .u32 0, .int .u32 0, .int .u32 0, .int .u32 0, .int .u32 0, .int .u32 0, .int .u32 0, .int .u32 0, .int .u32 0, .int .u32 0, .int .u32 0, .int .u32 0, .int .u32 0, .int .u32 0, .int .u32 0, .int .u32 0, .int .u32 0, .int .u32 0, .int .u32 0, .int .u32 0, .int .u32 0, .int .u32 0, .int .u32 0, .int .u32 0, .int .u32 0, .int .u32 0, .int .u32 0, .int .u32 0, .int .u32 0, .int .u32 0, .int .u32 0, .int .u32 0, .int .u32 0, .int .u32 0, .int .u32 0, .int .u32 0, .int .u32 0, .int .u32 0, .int .u32 0, .int .u32 0, .int .u32 0] 52)) 52 #[.int .u32 0, .int .u32 0, .int .u32 0, .int .u32 0, .int .u32 0, .int .u32 0, .int .u32 0, .int .u32 0, .int .u32 0, .int .u32 0, .int .u32 0, .int .u32 0, .int .u32 0, .int .u32 0, .int .u32 0, .int .u32 0, .int .u32 0, .int .u32 0, .int .u32 0, .int .u32 0, .int .u32 0, .int .u32 0, .int .u32 0, .int .u32 0, .int .u32 0, .int .u32 0, .int .u32 0, .int .u32 0, .int .u32 0, .int .u32 0, .int .u32 0, .int .u32 0, .int .u32 0, .int .u32 0, .int .u32 0, .int .u32 0, .int .u32 0, .int .u32 0, .int .u32 0, .int .u32 0, .int .u32 0, .int .u32 0, .int .u32 0, .int .u32 0, .int .u32 0, .int .u32 0, .int .u32 0, .int .u32 0, .int .u32 0, .int .u32 0, .int .u32 0, .int .u32 0, .int .u32 0, .int .u32 0, .int .u32 0, .int .u32 0, .int .u32 0, .int .u32 0, .int .u32 0, .int .u32 0, .int .u32 0, .int .u32 0, .int .u32 0, .int .u32 0]
  simp only [World.size_alloc] at LA
  have Q := ((Below.refl w.heap.size w).alloc (Nat.le_refl _) (.cells #[.int .u32 0, .int .u32 0, .int .u32 0, .int .u32 0, .int .u32 0, .int .u32 0, .int .u32 0, .int .u32 0, .int .u32 0, .int .u32 0, .int .u32 0, .int .u32 0, .int .u32 0, .int .u32 0, .int .u32 0, .int .u32 0, .int .u32 0, .int .u32 0, .int .u32 0, .int .u32 0, .int .u32 0, .int .u32 0, .int .u32 0, .int .u32 0, .int .u32 0, .int .u32 0, .int .u32 0, .int .u32 0, .int .u32 0, .int .u32 0, .int .u32 0, .int .u32 0, .int .u32 0, .int .u32 0, .int .u32 0, .int .u32 0, .int .u32 0, .int .u32 0, .int .u32 0, .int .u32 0, .int .u32 0, .int .u32 0, .int .u32 0, .int .u32 0, .int .u32 0, .int .u32 0, .int .u32 0, .int .u32 0, .int .u32 0, .int .u32 0, .int .u32 0, .int .u32 0, .int .u32 0, .int .u32 0, .int .u32 0, .int .u32 0, .int .u32 0, .int .u32 0, .int .u32 0, .int .u32 0, .int .u32 0, .int .u32 0, .int .u32 0, .int .u32 0] 52)).alloc (by simp) (.cells #[.int .u32 0, .int .u32 0, .int .u32 0, .int .u32 0, .int .u32 0, .int .u32 0, .int .u32 0, .int .u32 0, .int .u32 0, .int .u32 0, .int .u32 0, .int .u32 0, .int .u32 0, .int .u32 0, .int .u32 0, .int .u32 0, .int .u32 0, .int .u32 0, .int .u32 0, .int .u32 0, .int .u32 0, .int .u32 0, .int .u32 0, .int .u32 0, .int .u32 0, .int .u32 0, .int .u32 0, .int .u32 0, .int .u32 0, .int .u32 0, .int .u32 0, .int .u32 0, .int .u32 0, .int .u32 0, .int .u32 0, .int .u32 0, .int .u32 0, .int .u32 0, .int .u32 0, .int .u32 0, .int .u32 0, .int .u32 0, .int .u32 0, .int .u32 0, .int .u32 0, .int .u32 0, .int .u32 0, .int .u32 0, .int .u32 0, .int .u32 0, .int .u32 0, .int .u32 0, .int .u32 0, .int .u32 0, .int .u32 0, .int .u32 0, .int .u32 0, .int .u32 0, .int .u32 0, .int .u32 0, .int .u32 0, .int .u32 0, .int .u32 0, .int .u32 0] 52)
  go_enter Tryd.func20, Tryd.ntmps20
  go_wp2
  obtain ⟨W0, hW0⟩ : ∃ W0, (w.alloc (.cells #[.int .u32 0, .int .u32 0, .int .u32 0, .int .u32 0, .int .u32 0, .int .u32 0, .int .u32 0, .int .u32 0, .int .u32 0, .int .u32 0, .int .u32 0, .int .u32 0, .int .u32 0, .int .u32 0, .int .u32 0, .int .u32 0, .int .u32 0, .int .u32 0, .int .u32 0, .int .u32 0, .int .u32 0, .int .u32 0, .int .u32 0, .int .u32 0, .int .u32 0, .int .u32 0, .int .u32 0, .int .u32 0, .int .u32 0, .int .u32 0, .int .u32 0, .int .u32 0, .int .u32 0, .int .u32 0, .int .u32 0, .int .u32 0, .int .u32 0, .int .u32 0, .int .u32 0, .int .u32 0, .int .u32 0, .int .u32 0, .int .u32 0, .int .u32 0, .int .u32 0, .int .u32 0, .int .u32 0, .int .u32 0, .int .u32 0, .int .u32 0, .int .u32 0, .int .u32 0, .int .u32 0, .int .u32 0, .int .u32 0, .int .u32 0, .int .u32 0, .int .u32 0, .int .u32 0, .int .u32 0, .int .u32 0, .int .u32 0, .int .u32 0, .int .u32 0] 52)).alloc (.cells #[.int .u32 0, .int .u32 0, .int .u32 0, .int .u32 0, .int .u32 0, .int .u32 0, .int .u32 0, .int .u32 0, .int .u32 0, .int .u32 0, .int .u32 0, .int .u32 0, .int .u32 0, .int .u32 0, .int .u32 0, .int .u32 0, .int .u32 0, .int .u32 0, .int .u32 0, .int .u32 0, .int .u32 0, .int .u32 0, .int .u32 0, .int .u32 0, .int .u32 0, .int .u32 0, .int .u32 0, .int .u32 0, .int .u32 0, .int .u32 0, .int .u32 0, .int .u32 0, .int .u32 0, .int .u32 0, .int .u32 0, .int .u32 0, .int .u32 0, .int .u32 0, .int .u32 0, .int .u32 0, .int .u32 0, .int .u32 0, .int .u32 0, .int .u32 0, .int .u32 0, .int .u32 0, .int .u32 0, .int .u32 0, .int .u32 0, .int .u32 0, .int .u32 0, .int .u32 0, .int .u32 0, .int .u32 0, .int .u32 0, .int .u32 0, .int .u32 0, .int .u32 0, .int .u32 0, .int .u32 0, .int .u32 0, .int .u32 0, .int .u32 0, .int .u32 0] 52) = W0 := ⟨_, rfl⟩
  rw [hW0] at LR LA Q ⊢
  clear hW0
  rw [zeros64] at LR LA
  go_loopw [13] (fun i wr => ∃ k : Nat, k ≤ 64 ∧ i = .int .i64 (k : Int) ∧ Has wr (w.heap.size + 1) 52 (arC 64 (scK D k)) ∧ Has wr w.heap.size 52 (arC 64 fun _ => 0) ∧ Below w.heap.size w wr) (fun i _ => 64 - (intOf i).toNat)
  case atStart => exact ⟨0, by omega, rfl, LA, LR, Q⟩
  case round =>
    clear LA LR Q
    obtain ⟨k, hk, rfl, LA, LR, Q⟩ := hrel
    by_cases hlt : k < 64
    · have hkI : (k : Int) < 64 := by omega
      have kd : wr.cell? ⟨g, o + k, none⟩ = some (.int .u8 ((D k : Nat) : Int)) := (Q.cell (p := ⟨g, o + k, none⟩) hgl).trans (hc k hlt)
      have e1 : (k : Int).tdiv 4 = ((k / 4 : Nat) : Int) := by rw [Int.tdiv_eq_ediv_of_nonneg (by omega)]; omega
      have hw : IntKind.u32.wrap (((scK D k (k / 4) : Nat) : Int) * 256) = ((scK D k (k / 4) * 256 % 2 ^ 32 : Nat) : Int) := by rw [IntKind.wrap_u32]; omega
      have hx := u32_or_nat (scK D k (k / 4) * 256 % 2 ^ 32) (D k) (Nat.mod_lt _ (by decide)) (Nat.lt_trans (hD k) (by decide))
      have hS' : ∀ i, i < 64 → scK D (k + 1) i = if i = k / 4 then scK D k (k / 4) * 256 % 2 ^ 32 ||| D k else scK D k i := fun i _ => by
        show (if i = k / 4 then (scK D k i * 256 % 2 ^ 32 ||| D k) else scK D k i) = _
        by_cases e : i = k / 4
        · rw [if_pos e, if_pos e, e]
        · rw [if_neg e, if_neg e]
      have h8 : k / 4 < 64 := by omega
      have hd8 := hD k
      have kA := LA.cell _ _ (arC_get 64 _ _ h8)
      have kz := LA.frozen (k / 4)
      have N1 := LA.set (k / 4) (.int .u32 ((scK D k (k / 4) * 256 % 2 ^ 32 ||| D k : Nat) : Int))
      rw [arC_set 64 _ (scK D (k + 1)) (k / 4) _ hS'] at N1
      have HN1 := Lib.hid N1
      have HN2 := Lib.hid (LR.other (p := ⟨w.heap.size + 1, k / 4, none⟩) (by simp) (.int .u32 ((scK D k (k / 4) * 256 % 2 ^ 32 ||| D k : Nat) : Int)))
      have HN3 := Lib.hid (Q.setCell (p := ⟨w.heap.size + 1, k / 4, none⟩) (by simp) (.int .u32 ((scK D k (k / 4) * 256 % 2 ^ 32 ||| D k : Nat) : Int)))
      have HLT := Lib.hid hlt
      clear hlt hk LA LR Q N1 hS' hc
      generalize scK D k (k / 4) * 256 % 2 ^ 32 ||| D k = r at *
      generalize scK D k (k / 4) * 256 % 2 ^ 32 = c2 at *
      generalize scK D k (k / 4) = c at *
      generalize D k = d at *
      generalize k / 4 = i4 at *
      have hd8I : (d : Int) < 256 := by omega
      have h8I : (i4 : Int) < 64 := by omega
      clear h8 hd8 hD
      go_wp2
      go_roundw
      case rel => exact ⟨k + 1, by have := HLT.out; omega, by simp, HN1.out, HN2.out, HN3.out⟩
      case measure => simp [intOf]; omega
    · obtain rfl : k = 64 := by omega
      rw [arC_congr 64 (scK D 64) (exN D 16) (fun j _ => by
        unfold exN
        by_cases h : j < 16
        · rw [if_pos h, wdN_low D j h]
        · rw [if_neg h, scK_zero D 64 j (by omega)])] at LA
      clear hk hlt hc hgl
      have HW := Lib.hid (wdN_lt D hD)
      have HX := Lib.hid (exN_lt D hD)
      have HH := Lib.hid (wdN_high D)
      clear hD
      simp only [Int.cast_ofNat_Int]
      go_wp2
      go_loopw [6] (fun v wr => ∃ i : Nat, 16 ≤ i ∧ i ≤ 64 ∧ v = .int .i64 (i : Int) ∧ Has wr (w.heap.size + 1) 52 (arC 64 (exN D i)) ∧ Has wr w.heap.size 52 (arC 64 fun _ => 0) ∧ Below w.heap.size w wr) (fun v _ => 64 - (intOf v).toNat)
      case atStart => exact ⟨16, by omega, by omega, rfl, LA, LR, Q⟩
      case round =>
        clear LA LR Q
        obtain ⟨i, hi0, hi, rfl, LA, LR, Q⟩ := hrel
        by_cases hlt : i < 64
        · have i0 : (16 : Int) ≤ (i : Int) := by omega
          have i1 : (i : Int) < 64 := by omega
          have e15 : (i : Int) - 15 = ((i - 15 : Nat) : Int) := by omega
          have e2 : (i : Int) - 2 = ((i - 2 : Nat) : Int) := by omega
          have e16 : (i : Int) - 16 = ((i - 16 : Nat) : Int) := by omega
          have e7 : (i : Int) - 7 = ((i - 7 : Nat) : Int) := by omega
          have b15 : i - 15 < 64 := by omega
          have b2 : i - 2 < 64 := by omega
          have b16 : i - 16 < 64 := by omega
          have b7 : i - 7 < 64 := by omega
          have v15 : exN D i (i - 15) = wdN D (i - 15) := if_pos (by omega)
          have v2 : exN D i (i - 2) = wdN D (i - 2) := if_pos (by omega)
          have v16 : exN D i (i - 16) = wdN D (i - 16) := if_pos (by omega)
          have v7 : exN D i (i - 7) = wdN D (i - 7) := if_pos (by omega)
          have k15 : ∀ x : Ext wr, x.w.cell? ⟨w.heap.size + 1, i - 15, none⟩ = some (.int .u32 ((wdN D (i - 15) : Nat) : Int)) := fun x => by rw [← v15]; exact (LA.later x.below).cell _ _ (arC_get 64 _ _ b15)
          have k2 : ∀ x : Ext wr, x.w.cell? ⟨w.heap.size + 1, i - 2, none⟩ = some (.int .u32 ((wdN D (i - 2) : Nat) : Int)) := fun x => by rw [← v2]; exact (LA.later x.below).cell _ _ (arC_get 64 _ _ b2)
          have hS' : ∀ j, j < 64 → exN D (i + 1) j = if j = i then wdN D i else exN D i j := fun j _ => by
            unfold exN
            by_cases e : j = i
            · rw [if_pos e, if_pos (by omega), e]
            · rw [if_neg e]
              by_cases e2 : j < i
              · rw [if_pos e2, if_pos (by omega)]
              · rw [if_neg e2, if_neg (by omega)]
          have hh := HH.out i hi0 hlt
          have hx := HW.out (i - 15)
          have hy := HW.out (i - 2)
          have T7 := Lib.hid (turned_ret (wdN D (i - 15)) 7 hx (by decide))
          have T18 := Lib.hid (turned_ret (wdN D (i - 15)) 18 hx (by decide))
          have T17 := Lib.hid (turned_ret (wdN D (i - 2)) 17 hy (by decide))
          have T19 := Lib.hid (turned_ret (wdN D (i - 2)) 19 hy (by decide))
          have x1 := u32_xor_nat _ _ (rr_lt (wdN D (i - 15)) 7 hx) (rr_lt (wdN D (i - 15)) 18 hx)
          have s3 : ((wdN D (i - 15) : Nat) : Int) / 8 = ((wdN D (i - 15) / 2 ^ 3 : Nat) : Int) := by omega
          have y1 := u32_xor_nat _ _ (rr_lt (wdN D (i - 2)) 17 hy) (rr_lt (wdN D (i - 2)) 19 hy)
          have s10 : ((wdN D (i - 2) : Nat) : Int) / 1024 = ((wdN D (i - 2) / 2 ^ 10 : Nat) : Int) := by omega
          have x2 : bits .xor .u32 ((rr (wdN D (i - 15)) 7 ^^^ rr (wdN D (i - 15)) 18 : Nat) : Int) ((wdN D (i - 15) / 2 ^ 3 : Nat) : Int) = ((lowA (wdN D (i - 15)) : Nat) : Int) := u32_xor_nat _ _ (Nat.xor_lt_two_pow (rr_lt (wdN D (i - 15)) 7 hx) (rr_lt (wdN D (i - 15)) 18 hx)) (div_lt32 (wdN D (i - 15)) 3 hx)
          have y2 : bits .xor .u32 ((rr (wdN D (i - 2)) 17 ^^^ rr (wdN D (i - 2)) 19 : Nat) : Int) ((wdN D (i - 2) / 2 ^ 10 : Nat) : Int) = ((lowB (wdN D (i - 2)) : Nat) : Int) := u32_xor_nat _ _ (Nat.xor_lt_two_pow (rr_lt (wdN D (i - 2)) 17 hy) (rr_lt (wdN D (i - 2)) 19 hy)) (div_lt32 (wdN D (i - 2)) 10 hy)
          have z1 := wrap_add (wdN D (i - 16)) (wdN D (i - 7))
          have z2 := wrap_add ((wdN D (i - 16) + wdN D (i - 7)) % 2 ^ 32) (lowA (wdN D (i - 15)))
          have z3 := wrap_add (((wdN D (i - 16) + wdN D (i - 7)) % 2 ^ 32 + lowA (wdN D (i - 15))) % 2 ^ 32) (lowB (wdN D (i - 2)))
          rw [← hh] at z3
          clear hh hx hy HW HX HH v15 v2
          generalize ((wdN D (i - 16) + wdN D (i - 7)) % 2 ^ 32 + lowA (wdN D (i - 15))) % 2 ^ 32 = q2 at *
          generalize (wdN D (i - 16) + wdN D (i - 7)) % 2 ^ 32 = q1 at *
          generalize lowA (wdN D (i - 15)) = la at *
          generalize lowB (wdN D (i - 2)) = lb at *
          generalize rr (wdN D (i - 15)) 7 ^^^ rr (wdN D (i - 15)) 18 = p1 at *
          generalize rr (wdN D (i - 2)) 17 ^^^ rr (wdN D (i - 2)) 19 = p2 at *
          generalize rr (wdN D (i - 15)) 7 = r7 at *
          generalize rr (wdN D (i - 15)) 18 = r18 at *
          generalize rr (wdN D (i - 2)) 17 = r17 at *
          generalize rr (wdN D (i - 2)) 19 = r19 at *
          generalize wdN D (i - 15) / 2 ^ 3 = d3 at *
          generalize wdN D (i - 2) / 2 ^ 10 = d10 at *
          generalize wdN D (i - 15) = w15 at *
          generalize wdN D (i - 2) = w2 at *
          have HLA := Lib.hid LA
          have HLR := Lib.hid LR
          have HQ := Lib.hid Q
          have HS := Lib.hid hS'
          have HI := Lib.hid (And.intro hi0 hlt)
          have HB := Lib.hid (And.intro b16 b7)
          clear LA LR Q hS' hi0 hlt hi
          have b15I : ((i - 15 : Nat) : Int) < 64 := by omega
          have b2I : ((i - 2 : Nat) : Int) < 64 := by omega
          have b16I : ((i - 16 : Nat) : Int) < 64 := by omega
          have b7I : ((i - 7 : Nat) : Int) < 64 := by omega
          have V16 := Lib.hid v16
          have V7 := Lib.hid v7
          clear b15 b2 b16 b7 v16 v7
          go_wp2_with fail
          refine wp_region_quietL (C := Grows wr) hmx (by kernel_rfl) (grows_refl wr) ?_
          repeat (go_big_quiet_step (fail))
          refine wpQuiet_nil ?_
          rintro _ ⟨x, rfl⟩
          have HLA1 := Lib.hid (HLA.out.later x.below)
          have HLR1 := Lib.hid (HLR.out.later x.below)
          have HQ1 := Lib.hid (HQ.out.trans (x.below.mono HQ.out.size))
          clear k15 k2 HLA HLR HQ
          obtain ⟨w1, hw1⟩ : ∃ w1, x.w = w1 := ⟨_, rfl⟩
          rw [hw1] at HLA1 HLR1 HQ1 ⊢
          clear hw1 x
          go_wp2_with fail
          refine (T7.out _).mono ?_
          rintro e w2 ⟨rfl, q⟩
          have HLA2 := Lib.hid (HLA1.out.later q)
          have HLR2 := Lib.hid (HLR1.out.later q)
          have HQ2 := Lib.hid (HQ1.out.trans (q.mono HQ1.out.size))
          clear q HLA1 HLR1 HQ1
          go_wp2_with fail
          refine (T18.out _).mono ?_
          rintro e w3 ⟨rfl, q⟩
          have HLA3 := Lib.hid (HLA2.out.later q)
          have HLR3 := Lib.hid (HLR2.out.later q)
          have HQ3 := Lib.hid (HQ2.out.trans (q.mono HQ2.out.size))
          clear q HLA2 HLR2 HQ2
          go_wp2_with fail
          refine (T17.out _).mono ?_
          rintro e w4 ⟨rfl, q⟩
          have HLA4 := Lib.hid (HLA3.out.later q)
          have HLR4 := Lib.hid (HLR3.out.later q)
          have HQ4 := Lib.hid (HQ3.out.trans (q.mono HQ3.out.size))
          clear q HLA3 HLR3 HQ3
          go_wp2_with fail
          refine (T19.out _).mono ?_
          rintro e w5 ⟨rfl, q⟩
          have HLA5 := Lib.hid (HLA4.out.later q)
          have HLR5 := Lib.hid (HLR4.out.later q)
          have HQ5 := Lib.hid (HQ4.out.trans (q.mono HQ4.out.size))
          clear q HLA4 HLR4 HQ4
          have k16 : ∀ x : Ext w5, x.w.cell? ⟨w.heap.size + 1, i - 16, none⟩ = some (.int .u32 ((wdN D (i - 16) : Nat) : Int)) := fun x => by rw [← V16.out]; exact (HLA5.out.later x.below).cell _ _ (arC_get 64 _ _ HB.out.1)
          have k7 : ∀ x : Ext w5, x.w.cell? ⟨w.heap.size + 1, i - 7, none⟩ = some (.int .u32 ((wdN D (i - 7) : Nat) : Int)) := fun x => by rw [← V7.out]; exact (HLA5.out.later x.below).cell _ _ (arC_get 64 _ _ HB.out.2)
          have ki : ∀ x : Ext w5, ∃ v, x.w.cell? ⟨w.heap.size + 1, i, none⟩ = some v := fun x => ⟨_, (HLA5.out.later x.below).cell _ _ (arC_get 64 _ _ HI.out.2)⟩
          have kz : ∀ x : Ext w5, x.w.frozen? ⟨w.heap.size + 1, i, none⟩ = false := fun x => (HLA5.out.later x.below).frozen _
          go_wp2_with fail
          refine wp_region_mix (C := Grows w5) [some true, some true, some true, some true, some true, some true, some true, some true, some true, some true, some true, some true, some true, some true, some true, none] hmx (by kernel_rfl) (by kernel_rfl) (grows_refl w5) ?_
          simp only [headOf, tailOf]
          repeat (go_big_quiet_step (fail))
          refine wpQuiet_nil ?_
          rintro _ ⟨x, rfl⟩
          have N1 := (HLA5.out.later x.below).set i (.int .u32 ((wdN D i : Nat) : Int))
          rw [arC_set 64 _ (exN D (i + 1)) i _ HS.out] at N1
          have H1 := Lib.hid N1
          have H2 := Lib.hid ((HLR5.out.later x.below).other (p := ⟨w.heap.size + 1, i, none⟩) (by simp) (.int .u32 ((wdN D i : Nat) : Int)))
          have H3 := Lib.hid ((HQ5.out.trans (x.below.mono HQ5.out.size)).setCell (p := ⟨w.heap.size + 1, i, none⟩) (by simp) (.int .u32 ((wdN D i : Nat) : Int)))
          obtain ⟨vi, ki'⟩ := ki x
          have kz' := kz x
          clear k16 k7 ki kz N1
          go_wp2
          rw [calmPost_normal]
          go_wp2
          go_roundw
          case rel => exact ⟨i + 1, by have := HI.out.1; omega, by have := HI.out.2; omega, by simp, H1.out, H2.out, H3.out⟩
          case measure => simp [intOf]; omega
        · obtain rfl : i = 64 := by omega
          rw [arC_congr 64 (exN D 64) (wdN D) (fun j hj => if_pos hj)] at LA
          have HA := Lib.hid (load64 LA)
          have HR := Lib.hid LR
          have HQ := Lib.hid (below_row (B := w.heap.size) Q (Nat.le_refl _) (arC 64 (wdN D)))
          have HR2 : Hid (Has (wr.setRow w.heap.size (arC 64 (wdN D))) w.heap.size 52 (arC 64 (wdN D))) := Lib.hid LR.row
          clear LA LR Q hi hlt hi0 HW HX HH
          go_wp2_with (first | (refine wpList_loadB rfl _ _ rfl (w.heap.size + 1) rfl _ HA.out ?_) | (refine wpList_storeB rfl _ _ _ rfl w.heap.size (arC 64 (wdN D)) rfl rfl _ _ HR.out (infoA64 _) (by rw [arC_size, arC_size]) (one_arC 64 _) ?_))
          refine bodyPost_ret (results_cell_row rfl _ _ w.heap.size _ _ (0, 0) _ rfl HR2.out Tryd.underlying52 rfl (infoA64 _)) rfl ⟨rfl, HQ.out⟩
end Go.Proofs.YtnjmhcooejcehaaDoor
