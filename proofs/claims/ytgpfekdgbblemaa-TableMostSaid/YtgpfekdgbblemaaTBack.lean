/- TableBack. Conditions: the raw numbers lie in memory. -/
import Derived.Test.YtgpfekdgbblemaaTabU
import Derived.Test.YtgpfekdgbblemaaTabV
namespace Go.Proofs.Ytgpfekdgbblemaa
open Go Go.RowKit
attribute [local go_sem] Oper.semAt_some Grows wide_fn

theorem listF_wide (w : Pr → Option Nat) (hw : ∀ p v, w p = some v → v = p.fst ∨ v = p.snd) (a b : List Sl) (ha : ∀ x ∈ a, W256 x.1 ∧ W256 x.2) (hb : ∀ x ∈ b, W256 x.1 ∧ W256 x.2) : ∀ x ∈ listF w (bothL a b), W256 x.1 ∧ W256 x.2 := by
  intro x hx
  unfold listF at hx
  obtain ⟨p, hp, e⟩ := List.mem_filterMap.1 hx
  have h := bothL_wide a b ha hb p hp
  rcases hv : w p with _ | v
  · rw [hv] at e; cases e
  · rw [hv] at e
    injection e with e
    subst e
    refine ⟨h.1, ?_⟩
    rcases hw p v hv with rfl | rfl
    · exact h.2.1
    · exact h.2.2
theorem diffL_wide (a b : List Sl) (ha : ∀ x ∈ a, W256 x.1 ∧ W256 x.2) (hb : ∀ x ∈ b, W256 x.1 ∧ W256 x.2) : ∀ x ∈ diffL a b, W256 x.1 ∧ W256 x.2 :=
  listF_wide _ (fun p v h => by unfold unlikeF at h; split at h <;> simp at h; exact .inr h.symm) a b ha hb
theorem mergeL_wide (a b : List Sl) (ha : ∀ x ∈ a, W256 x.1 ∧ W256 x.2) (hb : ∀ x ∈ b, W256 x.1 ∧ W256 x.2) : ∀ x ∈ mergeL a b, W256 x.1 ∧ W256 x.2 :=
  listF_wide _ (fun p v h => by
    rcases p with ⟨k, f, s, i⟩
    cases i
    · simp [behindF] at h
      exact .inl h.2.symm
    · simp [behindF] at h
      exact .inr h.2.symm) a b ha hb
theorem diffL_len (a b : List Sl) : (diffL a b).length ≤ a.length + b.length := Nat.le_trans (listF_len _ _) (bothL_len a b)
theorem mergeL_len (a b : List Sl) : (mergeL a b).length ≤ a.length + b.length := Nat.le_trans (listF_len _ _) (bothL_len a b)
set_option maxRecDepth 100000 in
set_option maxHeartbeats 8000000 in
theorem tback_ret (W : World) (v0 : Value) (x0 : List (Int × Int)) (k0 : RawAt W v0 x0) (v1 : Value) (x1 : List (Int × Int)) (k1 : RawAt W v1 x1) :
    Calls Try.prog 4 #[v0, v1] W fun e w' => e = .returned (.bool true) ∧ Below W.heap.size W w' := by
  have hmx : Try.prog.follows .mixedOrders = true := by kernel_rfl
  have HA := Lib.hid (awake_any W)
  have H0 := Lib.hid k0
  have H1 := Lib.hid k1
  clear k0 k1
  go_enter Try.func4, Try.ntmps4
  go_wp2_with fail
  refine HA.out.mono ?_
  rintro e w1 ⟨rfl, hq⟩
  have Q := Lib.hid hq
  clear hq HA
  have hc := slots_raw w1 v0 x0 (H0.out.later Q.out) false
  go_wp2_with fail
  refine hc.mono ?_
  clear hc
  rintro e w2 ⟨sv, la, rfl, hrow, hr, hw, hl, hz, hq⟩
  have hsl := hrow.slots hw
  obtain ⟨aa, ca, rfl, _⟩ := hsl.shape
  have RA := Lib.hid hsl
  have KA := Lib.hid (show (la.length ≤ 20 ∧ Kept la) ∧ (∀ x ∈ la, W256 x.1 ∧ W256 x.2) from ⟨⟨hl, hr, hz rfl⟩, hw⟩)
  have Q2 := Lib.hid (Q.out.trans (hq.mono Q.out.size))
  clear hsl hrow hr hw hl hz hq
  have hc := slots_raw w2 v1 x1 (H1.out.later Q2.out) false
  go_wp2_with fail
  refine hc.mono ?_
  clear hc
  rintro e w3 ⟨sv, lb, rfl, hrow, hr, hw, hl, hz, hq⟩
  have hsl := hrow.slots hw
  obtain ⟨ab, cb, rfl, _⟩ := hsl.shape
  have RB := Lib.hid hsl
  have KB := Lib.hid (show (lb.length ≤ 20 ∧ Kept lb) ∧ (∀ x ∈ lb, W256 x.1 ∧ W256 x.2) from ⟨⟨hl, hr, hz rfl⟩, hw⟩)
  have RA2 := Lib.hid (RA.out.later hq)
  have Q3 := Lib.hid (Q2.out.trans (hq.mono Q2.out.size))
  clear hsl hrow hr hw hl hz hq RA
  have YA := Lib.hid (show rightB' la = true from (rightB_iff' la).2 ⟨by have := KA.out.1.1; omega, KA.out.1.2⟩)
  have YB := Lib.hid (show rightB' lb = true from (rightB_iff' lb).2 ⟨by have := KB.out.1.1; omega, KB.out.1.2⟩)
  have hc := diff_any w3 (.slice aa la.length ca) (.slice ab lb.length cb) la lb RA2.out RB.out
  rw [YA.out, YB.out, Bool.and_true] at hc
  go_wp2_with fail
  refine hc.mono ?_
  clear hc
  intro e w4 hd
  obtain ⟨sv, rfl, hrow, hq⟩ := hd.good (by have := diffL_len la lb; have := KA.out.1.1; have := KB.out.1.1; omega)
  have hsl := hrow.slots (diffL_wide la lb KA.out.2 KB.out.2)
  obtain ⟨ad, cd, rfl, _⟩ := hsl.shape
  have RD := Lib.hid hsl
  have RA3 := Lib.hid (RA2.out.later hq)
  have RB3 := Lib.hid (RB.out.later hq)
  have Q4 := Lib.hid (Q3.out.trans (hq.mono Q3.out.size))
  have YD := Lib.hid (show patchB (diffL la lb) = true from (patchB_iff _).2 ⟨by have := diffL_len la lb; have := KA.out.1.1; have := KB.out.1.1; omega, diffL_rise KA.out.1.2.1 KB.out.1.2.1⟩)
  clear hsl hrow hq hd RA2 RB
  have hc := merge_any w4 (.slice aa la.length ca) (.slice ad (diffL la lb).length cd) la (diffL la lb) RA3.out RD.out
  rw [YA.out, YD.out, Bool.and_true, merge_diff KA.out.1.2 KB.out.1.2] at hc
  go_wp2_with fail
  refine hc.mono ?_
  clear hc
  intro e w5 hd
  obtain ⟨sv, rfl, hrow, hq⟩ := hd.good (by have := KB.out.1.1; omega)
  have hsl := hrow.slots KB.out.2
  obtain ⟨am, cm, rfl, _⟩ := hsl.shape
  have RM := Lib.hid hsl
  have RA4 := Lib.hid (RA3.out.later hq)
  have RB4 := Lib.hid (RB3.out.later hq)
  have RD4 := Lib.hid (RD.out.later hq)
  have Q5 := Lib.hid (Q4.out.trans (hq.mono Q4.out.size))
  clear hsl hrow hq hd RA3 RB3 RD
  have hc := diff_any w5 (.slice aa la.length ca) (.slice aa la.length ca) la la RA4.out RA4.out
  rw [YA.out, Bool.and_true, diff_self KA.out.1.2] at hc
  go_wp2_with fail
  refine hc.mono ?_
  clear hc
  intro e w6 hd
  obtain ⟨sv, rfl, hrow, hq⟩ := hd.good (by simp)
  obtain ⟨an, cn, rfl⟩ := hrow.shape
  simp only [List.length_nil] at hrow ⊢
  have RM5 := Lib.hid (RM.out.later hq)
  have RB5 := Lib.hid (RB4.out.later hq)
  have RD5 := Lib.hid (RD4.out.later hq)
  have Q6 := Lib.hid (Q5.out.trans (hq.mono Q5.out.size))
  clear hrow hq hd RA4 RB4 RD4 RM
  have hc := same_any w6 (.slice am lb.length cm) (.slice ab lb.length cb) lb lb RM5.out RB5.out
  rw [decide_eq_true rfl] at hc
  go_wp2_with fail
  refine hc.mono ?_
  clear hc
  rintro e w7 ⟨rfl, hq⟩
  have RD6 := Lib.hid (RD5.out.later hq)
  have Q7 := Lib.hid (Q6.out.trans (hq.mono Q6.out.size))
  clear hq RD5
  have hc := patch_any w7 (.slice ad (diffL la lb).length cd) (diffL la lb) RD6.out
  rw [YD.out] at hc
  go_wp2_with fail
  refine hc.mono ?_
  clear hc
  rintro e w8 ⟨rfl, hq⟩
  have Q8 := Lib.hid (Q7.out.trans (hq.mono Q7.out.size))
  clear hq
  go_wp2_with fail
  go_ret
  exact ⟨rfl, Q8.out⟩
end Go.Proofs.Ytgpfekdgbblemaa
