/- Cost and Run. For all places, texts and numbers. -/
import Derived.Test.YtnjmhcooejcehaaDoorShaG
import Derived.Test.YtnjmhcooejcehaaDoorRefC
import Derived.Test.YtnjmhcooejcehaaDoorPick
namespace Go.Proofs.YtnjmhcooejcehaaDoor
open Go Go.RowKit Go.Shelf
attribute [local go_sem] Oper.semAt_some Grows wide_fn eq4

theorem eqv_of (a b : Nat) (ha : W256 a) (hb : W256 b) : (lim a 0 == lim b 0 && lim a 1 == lim b 1 && lim a 2 == lim b 2 && lim a 3 == lim b 3) = decide (a = b) := by
  by_cases e : a = b
  · subst e
    simp
  · rw [decide_eq_false e]
    by_cases h : (lim a 0 == lim b 0 && lim a 1 == lim b 1 && lim a 2 == lim b 2 && lim a 3 == lim b 3) = true
    · exfalso
      simp only [Bool.and_eq_true, beq_iff_eq] at h
      refine e (lim_ext ha hb (fun k hk => ?_))
      match k, hk with
      | 0, _ => exact h.1.1.1
      | 1, _ => exact h.1.1.2
      | 2, _ => exact h.1.2
      | 3, _ => exact h.2
    · simpa using h
/-- What the precompile at a place costs for so many pieces. -/
def costN (a p : Nat) : Option Nat := if a = 2 then some (60 + 12 * p) else if a = 4 then some (15 + 3 * p) else none
def costV (a : Nat) (m : Int) : Value := if m < 0 ∨ 1048576 < m then .tuple #[.int .i64 0, .bool false] else match costN a ((m.toNat + 31) / 32) with
  | some c => .tuple #[.int .i64 (c : Int), .bool true]
  | none => .tuple #[.int .i64 0, .bool false]

set_option maxRecDepth 100000 in
set_option maxHeartbeats 4000000 in
theorem cost_out (z0 z1 z2 z3 m : Int) (hm : m < 0 ∨ 1048576 < m) (hI : I64 m) : Ret Tryd.prog 13 #[W4 z0 z1 z2 z3, .int .i64 m] (.tuple #[.int .i64 0, .bool false]) := by
  intro w
  unfold I64 at hI
  have Q := (Below.refl w.heap.size w).alloc (Nat.le_refl _) (.cells #[.int .u64 z0, .int .u64 z1, .int .u64 z2, .int .u64 z3] 24)
  rcases hm with h | h
  · go_enter Tryd.func13, Tryd.ntmps13
    go_wp2
    go_ret2
    exact ⟨rfl, Q⟩
  · have h0 : ¬ m < 0 := by omega
    go_enter Tryd.func13, Tryd.ntmps13
    go_wp2
    go_ret2
    exact ⟨rfl, Q⟩

set_option maxRecDepth 100000 in
set_option maxHeartbeats 4000000 in
theorem cost_in (z0 z1 z2 z3 : Int) (m p : Nat) (hm : m ≤ 1048576) (b2 b4 : Bool) (c : Int) (i : Bool)
    (hr : Ret Tryd.prog 23 #[.int .i64 (m : Int), .int .i64 32] (.int .i64 (p : Int))) (hp : p ≤ 100000)
    (h2 : Ret Tryd.prog 24 #[.int .i64 2] (W4 2 0 0 0)) (h4 : Ret Tryd.prog 24 #[.int .i64 4] (W4 4 0 0 0))
    (e2 : (z0 == 2 && z1 == 0 && z2 == 0 && z3 == 0) = b2) (e4 : (z0 == 4 && z1 == 0 && z2 == 0 && z3 == 0) = b4)
    (hc : (c, i) = if b2 = true then ((60 : Int) + 12 * p, true) else if b4 = true then ((15 : Int) + 3 * p, true) else (0, false)) :
    Ret Tryd.prog 13 #[W4 z0 z1 z2 z3, .int .i64 (m : Int)] (.tuple #[.int .i64 c, .bool i]) := by
  intro w
  have H2 := Lib.hid h2
  have H4 := Lib.hid h4
  have HR := Lib.hid hr
  have hmI : (m : Int) ≤ 1048576 := by omega
  have hm0 : (0 : Int) ≤ (m : Int) := by omega
  have hpI : (p : Int) ≤ 100000 := by omega
  have hp0 : (0 : Int) ≤ (p : Int) := by omega
  clear h2 h4 hr hm hp
  have L := Has.new w 24 #[.int .u64 z0, .int .u64 z1, .int .u64 z2, .int .u64 z3]
  have Q := (Below.refl w.heap.size w).alloc (Nat.le_refl _) (.cells #[.int .u64 z0, .int .u64 z1, .int .u64 z2, .int .u64 z3] 24)
  go_enter Tryd.func13, Tryd.ntmps13
  go_wp2_with fail
  refine (HR.out _).mono ?_
  rintro e w1 ⟨rfl, q⟩
  have L1 := L.later q
  have Q1 := Q.trans (q.mono Q.size)
  have k0 := L1.cell 0 _ rfl
  have k1 := L1.cell 1 _ rfl
  have k2 := L1.cell 2 _ rfl
  have k3 := L1.cell 3 _ rfl
  clear L Q q L1
  have HQ := Lib.hid Q1
  clear Q1
  go_wp2_with fail
  refine (H2.out _).mono ?_
  rintro e w2 ⟨rfl, q⟩
  have HQ2 := Lib.hid (HQ.out.trans (q.mono HQ.out.size))
  clear q HQ k0 k1 k2 k3
  cases b2 with
  | true =>
    simp only [if_true, Prod.mk.injEq] at hc
    obtain ⟨rfl, rfl⟩ := hc
    go_wp2_with fail
    go_ret2
    exact ⟨rfl, HQ2.out⟩
  | false =>
    go_wp2_with fail
    refine (H4.out _).mono ?_
    rintro e w3 ⟨rfl, q⟩
    have HQ3 := Lib.hid (HQ2.out.trans (q.mono HQ2.out.size))
    clear q HQ2
    cases b4 with
    | true =>
      simp only [if_true, if_false, Bool.false_eq_true, Prod.mk.injEq] at hc
      obtain ⟨rfl, rfl⟩ := hc
      go_wp2_with fail
      go_ret2
      exact ⟨rfl, HQ3.out⟩
    | false =>
      simp only [if_true, if_false, Bool.false_eq_true, Prod.mk.injEq] at hc
      obtain ⟨rfl, rfl⟩ := hc
      go_wp2_with fail
      go_ret2
      exact ⟨rfl, HQ3.out⟩
end Go.Proofs.YtnjmhcooejcehaaDoor
