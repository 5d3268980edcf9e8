/- AccessJoins: at all inputs the law answers true, and changes no argument. Conditions: none. -/
import Derived.Test.YtfnkmafdmfljmaaAkI
import Derived.Test.YtfnkmafdmfljmaaOpenP
import Derived.Test.YtfnkmafdmfljmaaRawO
import Derived.Test.YtfnkmafdmfljmaaRwO
import Derived.WalkKit
namespace Go.Proofs.Ytfnkmafdmfljmaa
open Go Go.ChangeShapes Go.WideShapes Go.ChangeAt Go.RowKit

set_option maxRecDepth 100000 in
theorem accessJoins_lifted (os : Os) (started : os.Started) (H : Type) (enc : TypeId × Value → H) :
    ReturnsInHanded {} Try.checked os 6 .any (Rows.accessJoinsSpec.pre6 enc Try.prog Try.f6 Rows.accessJoinsRow.domain false) (Rows.accessJoinsSpec.post enc Try.prog Try.f6 false true false false) := by
  refine returnsInHanded_of_change (C := Try.checked) ownNone started (by kernel_rfl) Try.func6
    (ChangeSpec.witness6 (enc := enc) (C := Try.checked) false ⟨#[], #[.agg #[.slice none 0 0, .slice none 0 0], .agg #[.slice none 0 0, .slice none 0 0], .agg #[.slice none 0 0, .slice none 0 0]], []⟩ 8 (by kernel_rfl) (by kernel_rfl) (by kernel_rfl) (by kernel_rfl)) ?_
  intro W base args ds gs before hval0 hW hcnd _
  have hval : ∀ (j : Nat) t v, Try.f6.params[j]? = some t → args[j]? = some v → Value.okWide Try.prog W .any base t v := hval0
  have hW' := hW
  obtain ⟨p, q, hA0, hV, rfl, hfz, hnd⟩ := hW
  have hA : DataW.TrodAll enc Try.prog W 0 (fun _ => true) true Try.f6.params.toList args.toList ds p := hA0
  have hp := Try.params6
  rw [hp] at hA hval
  obtain ⟨v0, r0, d0, e0, p0, q0, hargs, rfl, rfl, h0, hr0⟩ := trodAll_cons hA
  obtain ⟨v1, r1, d1, e1, p1, q1, rfl, rfl, rfl, h1, hr1⟩ := trodAll_cons hr0
  obtain ⟨v2, r2, d2, e2, p2, q2, rfl, rfl, rfl, h2, hr2⟩ := trodAll_cons hr1
  obtain ⟨rfl, rfl, rfl⟩ := trodAll_nil hr2
  obtain rfl : args = #[v0, v1, v2] := Array.toList_inj.1 hargs
  clear hargs
  obtain ⟨rfl, rfl⟩ := trodVars_none hV
  obtain ⟨x0, y0, zx0, zy0, rfl, k0, l0⟩ := open_raw2 (hval 0 _ _ rfl rfl) h0
  obtain ⟨x1, y1, zx1, zy1, rfl, k1, l1⟩ := open_raw2 (hval 1 _ _ rfl rfl) h1
  obtain ⟨x2, y2, zx2, zy2, rfl, k2, l2⟩ := open_raw2 (hval 2 _ _ rfl rfl) h2
  clear hval0
  simp only [List.append_nil] at hW' hA0
  refine (accessJoins_ret W x0 y0 zx0 zy0 k0 l0 x1 y1 zx1 zy1 k1 l1 x2 y2 zx2 zy2 k2 l2).mono fun e W' ⟨he, hw⟩ => ?_
  subst he
  exact ⟨_, rfl, post_read hW' rfl rfl rfl hA0 (by kernel_rfl) hw⟩

theorem accessJoins_holds : Rows.AccessJoinsSaid :=
  OpenClaim.holds_of_wide 6 Try.f6 rfl rfl rfl rfl rfl rfl rfl ⟨rfl, rfl, rfl, rfl, rfl⟩ rfl rfl rfl rfl rfl (by kernel_rfl) Try.func6 (by kernel_rfl)
    (of_decide_eq_true (by kernel_rfl)) (by unfold Func.isWrapper; first | (rw [if_pos (by decide +kernel)]; kernel_rfl) | (rw [if_neg (by decide +kernel)]; exact ⟨rfl, rfl⟩))
    (fun os started H enc _ => accessJoins_lifted os started H enc)
#print axioms accessJoins_holds
end Go.Proofs.Ytfnkmafdmfljmaa
