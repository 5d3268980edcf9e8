/- Part. -/
import Derived.WalkKit
import Derived.ChangeMaps5
import Derived.Test.YtpolmfmlklmmcaaH11
set_option maxRecDepth 100000
set_option maxHeartbeats 16000000
namespace Go.Proofs.Ytpolmfmlklmmcaa
open Go Go.ChangeShapes Go.WideShapes Go.ChangeAt Go.RowKit
theorem memoryTells_lifted (os : Os) (started : os.Started) (H : Type) (enc : TypeId × Value → H) :
  ReturnsInHanded {} Try.checked os 3 .any (Rows.memoryTellsSpec.pre6 enc Try.prog Try.f3 Rows.memoryTellsRow.domain false) (Rows.memoryTellsSpec.post enc Try.prog Try.f3 false true false false) := by
 refine returnsInHanded_of_change (C := Try.checked) ownNone started (by kernel_rfl) Try.func3
  (ChangeSpec.witness6 (enc := enc) (C := Try.checked) false ⟨#[], #[.string ⟨#[]⟩, .int .i64 0, .int .i64 0, .int .i64 0, W4 0 0 0 0, W4 0 0 0 0, .string ⟨#[]⟩], []⟩ 8 (by kernel_rfl) (by kernel_rfl) (by kernel_rfl) (by kernel_rfl)) ?_
 intro W base args ds gs before hval0 hW hcnd _
 have hval : ∀ (j : Nat) t v, Try.f3.params[j]? = some t → args[j]? = some v → Value.okWide Try.prog W .any base t v := hval0
 have hW' := hW
 obtain ⟨p, q, hA0, hV, rfl, hfz, hnd⟩ := hW
 have hA : DataW.TrodAll enc Try.prog W 0 (fun _ => true) true Try.f3.params.toList args.toList ds p := hA0
 have hp := Try.params3
 rw [hp] at hA hval
 obtain ⟨v0, r0, d0, e0, p0, q0, hargs, rfl, rfl, h0, hr0⟩ := trodAll_cons hA
 obtain ⟨v1, r1, d1, e1, p1, q1, rfl, rfl, rfl, h1, hr1⟩ := trodAll_cons hr0
 obtain ⟨v2, r2, d2, e2, p2, q2, rfl, rfl, rfl, h2, hr2⟩ := trodAll_cons hr1
 obtain ⟨v3, r3, d3, e3, p3, q3, rfl, rfl, rfl, h3, hr3⟩ := trodAll_cons hr2
 obtain ⟨v4, r4, d4, e4, p4, q4, rfl, rfl, rfl, h4, hr4⟩ := trodAll_cons hr3
 obtain ⟨v5, r5, d5, e5, p5, q5, rfl, rfl, rfl, h5, hr5⟩ := trodAll_cons hr4
 obtain ⟨v6, r6, d6, e6, p6, q6, rfl, rfl, rfl, h6, hr6⟩ := trodAll_cons hr5
 obtain ⟨rfl, rfl, rfl⟩ := trodAll_nil hr6
 obtain rfl : args = #[v0, v1, v2, v3, v4, v5, v6] := Array.toList_inj.1 hargs
 clear hargs
 obtain ⟨rfl, rfl⟩ := trodVars_none hV
 obtain ⟨x0, rfl, rfl, rfl, g0⟩ := ChangeMaps.open_string Try.underlying9 (hval 0 _ _ rfl rfl) h0
 obtain ⟨x1, rfl, rfl, rfl, g1⟩ := open_int Try.underlying3 (hval 1 _ _ rfl rfl) h1
 obtain ⟨x2, rfl, rfl, rfl, g2⟩ := open_int Try.underlying3 (hval 2 _ _ rfl rfl) h2
 obtain ⟨x3, rfl, rfl, rfl, g3⟩ := open_int Try.underlying3 (hval 3 _ _ rfl rfl) h3
 obtain ⟨x4, g4, rfl, rfl, k4⟩ := open_word (hval 4 _ _ rfl rfl) h4
 obtain ⟨x5, g5, rfl, rfl, k5⟩ := open_word (hval 5 _ _ rfl rfl) h5
 obtain ⟨x6, rfl, rfl, rfl, g6⟩ := ChangeMaps.open_string Try.underlying9 (hval 6 _ _ rfl rfl) h6
 clear hA0 hval0
 simp only [List.append_nil] at hW'
 refine (tells_any12 x0 x1 x2 x3 x4 x5 x6 (i64_of_wf g1) (i64_of_wf g2) (i64_of_wf g3) g4 g5 W).mono fun e W' ⟨he, hw⟩ => ?_
 subst he
 refine ⟨_, rfl, post_true hW' rfl rfl rfl (fun W' b' sp held => ?_) hw⟩
 rw [hp]
 exact (trodAll_cons_mk (ChangeMaps.shut_string Try.underlying9 g0) (trodAll_cons_mk (shut_int Try.underlying3 g1) (trodAll_cons_mk (shut_int Try.underlying3 g2) (trodAll_cons_mk (shut_int Try.underlying3 g3) (trodAll_cons_mk (k4 W' b' sp held) (trodAll_cons_mk (k5 W' b' sp held) (trodAll_cons_mk (ChangeMaps.shut_string Try.underlying9 g6) trodAll_mk0)))))))
theorem memoryTells_holds : Rows.MemoryTellsSaid :=
 OpenClaim.holds_of_wide 3 Try.f3 rfl rfl rfl rfl rfl rfl rfl ⟨rfl, rfl, rfl, rfl, rfl⟩ rfl rfl rfl rfl rfl (by kernel_rfl) Try.func3 (by kernel_rfl)
  (of_decide_eq_true (by kernel_rfl)) (by unfold Func.isWrapper; first | (rw [if_pos (by decide +kernel)]; kernel_rfl) | (rw [if_neg (by decide +kernel)]; exact ⟨rfl, rfl⟩))
  (fun os started H enc _ => memoryTells_lifted os started H enc)
#print axioms memoryTells_holds
end Go.Proofs.Ytpolmfmlklmmcaa
