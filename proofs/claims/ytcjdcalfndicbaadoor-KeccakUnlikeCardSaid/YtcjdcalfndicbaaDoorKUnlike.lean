/- Permute of unlike lanes is unlike: the walk, and the answer. -/
import Derived.Test.YtcjdcalfndicbaaDoorKecE5
import Derived.Test.YtcjdcalfndicbaaDoorKecU
namespace Go.Proofs.YtcjdcalfndicbaaDoor
open Go Go.RowKit Go.Shelf
attribute [local go_sem] Oper.semAt_some Grows wide_fn field0 eq25

theorem quiet_loadB {W : World} {o : Oper} {a : Act} {K : Act → Prop} (ty : TypeId) (x : Operand) (ho : o.op = .load ty x) (B : Nat) (hx : a.eval x = .pointer (some ⟨B, 0, none⟩)) (cs : Array Value) (hr : ∀ y : Ext W, (loadVar ty ⟨B, 0, none⟩).run Tryd.prog y.w = .ok (.agg cs) y.w) (h : K (a.put o.dst (.agg cs))) : o.quiet Tryd.prog a (Grows W) K :=
  ⟨.agg cs, fun w hw => by
    obtain ⟨y, rfl⟩ := hw
    unfold Oper.quietAt execOp
    simp only [ho, hx, Instr.loadAt, Instr.sureAddr, Sem.run_bind, Sem.run_pure, Result.andThen_ok, hr y]
    exact ⟨rfl, rfl⟩, h⟩

set_option maxRecDepth 100000 in
set_option maxHeartbeats 4000000 in
theorem unlike_walk (A B P R : Nat → Nat) (hE : (eqL P R == eqL A B) = true) (h1 : RetT Tryd.prog 11 #[.agg (luC 25 A)] (.agg (luC 25 P))) (h2 : RetT Tryd.prog 11 #[.agg (luC 25 B)] (.agg (luC 25 R))) :
    RetT Tryd.prog 6 #[.agg (luC 25 A), .agg (luC 25 B)] (.bool true) := by
  intro w HT
  have H0 := Lib.hid awake_ret
  have H1 := Lib.hid h1
  have H2 := Lib.hid h2
  clear h1 h2
  have LA := (Has.new w 24 (luC 25 A)).alloc (.cells (luC 25 B) 24)
  have LB := Has.new (w.alloc (.cells (luC 25 A) 24)) 24 (luC 25 B)
  simp only [World.size_alloc] at LB
  have HT := (HT.alloc (.cells (luC 25 A) 24)).alloc (.cells (luC 25 B) 24)
  have Q := ((Below.refl w.heap.size w).alloc (Nat.le_refl _) (.cells (luC 25 A) 24)).alloc (by simp) (.cells (luC 25 B) 24)
  go_enter Tryd.func6, Tryd.ntmps6
  go_wp2_with fail
  refine (H0.out _ HT).mono ?_
  rintro e w1 ⟨rfl, q⟩
  have LA := LA.later q
  have LB := LB.later q
  have HT := HT.later q
  have Q := Q.trans (q.mono Q.size)
  clear q H0
  have HA : Hid (∀ y : Ext w1, (loadVar 24 ⟨w.heap.size, 0, none⟩).run Tryd.prog y.w = .ok (.agg (luC 25 A)) y.w) := Lib.hid (fun y => load25 (LA.later y.below))
  have HB : Hid (∀ y : Ext w1, (loadVar 24 ⟨w.heap.size + 1, 0, none⟩).run Tryd.prog y.w = .ok (.agg (luC 25 B)) y.w) := Lib.hid (fun y => load25 (LB.later y.below))
  have HQ := Lib.hid Q
  clear LA LB Q
  go_wp2_with fail
  try simp only [List.append]
  refine wp_region_quick (C := Grows w1) (by kernel_rfl) (by kernel_rfl) (by kernel_rfl) (grows_refl w1) ?_
  repeat (first | (go_big_quiet_want; refine quiet_loadB _ _ rfl w.heap.size rfl _ HA.out ?_; simp only [Act.put, List.setIfInBounds_toArray, List.set_cons_succ, List.set_cons_zero]; go_big_quiet_on) | (go_big_quiet_want; refine quiet_loadB _ _ rfl (w.heap.size + 1) rfl _ HB.out ?_; simp only [Act.put, List.setIfInBounds_toArray, List.set_cons_succ, List.set_cons_zero]; go_big_quiet_on) | go_big_quiet_step (first | (with_reducible exact RetT.at H1.out HT _) | (with_reducible exact RetT.at H2.out HT _)))
  refine wpQuiet_nil ?_
  rintro _ ⟨x, rfl⟩
  go_wp2
  go_ret
  exact ⟨rfl, HQ.out.trans (x.below.mono HQ.out.size)⟩
theorem eqL_perm (A B : Nat → Nat) (hA : ∀ j, A j < 2 ^ 64) (hB : ∀ j, B j < 2 ^ 64) : eqL (permN A) (permN B) = eqL A B := by
  have h : eqL (permN A) (permN B) = true ↔ eqL A B = true := by
    rw [eqL_iff, eqL_iff]
    exact ⟨permN_inj A B hA hB, fun h => permN_congr A B h⟩
  cases h1 : eqL (permN A) (permN B) with
  | true => exact (h.1 h1).symm
  | false =>
    cases h2 : eqL A B with
    | false => rfl
    | true => rw [h.2 h2] at h1; cases h1
theorem kUnlike_ret (A B : Nat → Nat) (hA : ∀ j, A j < 2 ^ 64) (hB : ∀ j, B j < 2 ^ 64) : RetT Tryd.prog 6 #[.agg (luC 25 A), .agg (luC 25 B)] (.bool true) :=
  unlike_walk A B (permN A) (permN B) (by rw [eqL_perm A B hA hB]; exact beq_self_eq_true _) (permute_ret A hA) (permute_ret B hB)
end Go.Proofs.YtcjdcalfndicbaaDoor
