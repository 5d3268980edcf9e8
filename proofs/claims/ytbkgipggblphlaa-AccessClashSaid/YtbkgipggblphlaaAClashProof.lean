/- AccessClash: at all inputs the law answers true, and changes no argument. Conditions: none. -/
import Derived.Test.YtbkgipggblphlaaAkP
import Derived.Test.YtbkgipggblphlaaOpenP
import Derived.Test.YtbkgipggblphlaaRawO
import Derived.Test.YtbkgipggblphlaaRwO
import Derived.WalkKit
namespace Go.Proofs.Ytbkgipggblphlaa
open Go Go.ChangeShapes Go.WideShapes Go.ChangeAt Go.RowKit

set_option maxRecDepth 100000 in
theorem accessClash_lifted (os : Os) (started : os.Started) (H : Type) (enc : TypeId × Value → H) :
    ReturnsInHanded {} Try.checked os 4 .any (Rows.accessClashSpec.pre6 enc Try.prog Try.f4 Rows.accessClashRow.domain false) (Rows.accessClashSpec.post enc Try.prog Try.f4 false true false false) := by
  refine returnsInHanded_of_change (C := Try.checked) ownNone started (by kernel_rfl) Try.func4
    (ChangeSpec.witness6 (enc := enc) (C := Try.checked) false ⟨#[], #[.agg #[.slice none 0 0, .slice none 0 0], .agg #[.slice none 0 0, .slice none 0 0], .agg #[.slice none 0 0, .slice none 0 0], .agg #[.int .i64 0, .int .i64 0]], []⟩ 8 (by kernel_rfl) (by kernel_rfl) (by kernel_rfl) (by kernel_rfl)) ?_
  intro W base args ds gs before hval0 hW hcnd _
  have hval : ∀ (j : Nat) t v, Try.f4.params[j]? = some t → args[j]? = some v → Value.okWide Try.prog W .any base t v := hval0
  have hW' := hW
  obtain ⟨p, q, hA0, hV, rfl, hfz, hnd⟩ := hW
  have hA : DataW.TrodAll enc Try.prog W 0 (fun _ => true) true Try.f4.params.toList args.toList ds p := hA0
  have hp := Try.params4
  rw [hp] at hA hval
  obtain ⟨v0, r0, d0, e0, p0, q0, hargs, rfl, rfl, h0, hr0⟩ := trodAll_cons hA
  obtain ⟨v1, r1, d1, e1, p1, q1, rfl, rfl, rfl, h1, hr1⟩ := trodAll_cons hr0
  obtain ⟨v2, r2, d2, e2, p2, q2, rfl, rfl, rfl, h2, hr2⟩ := trodAll_cons hr1
  obtain ⟨v3, r3, d3, e3, p3, q3, rfl, rfl, rfl, h3, hr3⟩ := trodAll_cons hr2
  obtain ⟨rfl, rfl, rfl⟩ := trodAll_nil hr3
  obtain rfl : args = #[v0, v1, v2, v3] := Array.toList_inj.1 hargs
  clear hargs
  obtain ⟨rfl, rfl⟩ := trodVars_none hV
  obtain ⟨x0, y0, zx0, zy0, rfl, k0, l0⟩ := open_raw2 (hval 0 _ _ rfl rfl) h0
  obtain ⟨x1, y1, zx1, zy1, rfl, k1, l1⟩ := open_raw2 (hval 1 _ _ rfl rfl) h1
  obtain ⟨x2, y2, zx2, zy2, rfl, k2, l2⟩ := open_raw2 (hval 2 _ _ rfl rfl) h2
  obtain ⟨x3, y3, rfl, k3, l3⟩ := open_pairI (hval 3 _ _ rfl rfl) h3
  clear hval0
  simp only [List.append_nil] at hW' hA0
  refine (accessClash_ret W x0 y0 zx0 zy0 k0 l0 x1 y1 zx1 zy1 k1 l1 x2 y2 zx2 zy2 k2 l2 x3 y3 k3 l3).mono fun e W' ⟨he, hw⟩ => ?_
  subst he
  exact ⟨_, rfl, post_read hW' rfl rfl rfl hA0 (by kernel_rfl) hw⟩

theorem accessClash_holds : Rows.AccessClashSaid :=
  OpenClaim.holds_of_wide 4 Try.f4 rfl rfl rfl rfl rfl rfl rfl ⟨rfl, rfl, rfl, rfl, rfl⟩ rfl rfl rfl rfl rfl (by kernel_rfl) Try.func4 (by kernel_rfl)
    (of_decide_eq_true (by kernel_rfl)) (by unfold Func.isWrapper; first | (rw [if_pos (by decide +kernel)]; kernel_rfl) | (rw [if_neg (by decide +kernel)]; exact ⟨rfl, rfl⟩))
    (fun os started H enc _ => accessClash_lifted os started H enc)
#print axioms accessClash_holds
end Go.Proofs.Ytbkgipggblphlaa
