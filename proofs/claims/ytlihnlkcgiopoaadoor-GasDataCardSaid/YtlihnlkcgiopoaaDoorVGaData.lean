/- Part. -/
import Derived.Test.YtlihnlkcgiopoaaDoorTie
import Derived.Test.YtlihnlkcgiopoaaDoorCards
import Derived.LaidSub
import Derived.LaidLaws
import Derived.SevenTiedAt
import Derived.Lay
import Derived.SizedLaws
import Derived.ChangeMaps5
import Derived.OpenShut
import Derived.WalkKit
import Derived.Test.YtlihnlkcgiopoaaDoorRows
import Derived.ProofKit
import Derived.LaidMore
import Derived.Stop.Joined
import Derived.ChangeSame
import Derived.Below
import Derived.Laws.IdiomArrays
import Derived.Test.YtlihnlkcgiopoaaDoorI11
import Derived.Test.YtlihnlkcgiopoaaDoorI04
set_option maxRecDepth 100000
set_option maxHeartbeats 16000000
namespace Go.Proofs.YtlihnlkcgiopoaaDoor
open Go Go.ChangeShapes Go.WideShapes Go.ChangeAt Go.RowKit
theorem gasData_lifted (os : Os) (started : os.Started) (H : Type) (enc : TypeId × Value → H) :
  ReturnsInHanded {} Tryd.checked os 6 .any (fun w args => (Rows.gasDataSpec.pre enc Tryd.prog Tryd.f6 [] false w args ∧ laidMetH Tryd.prog Rows.gasDataRow.laid w) ∧ sizedMet enc Tryd.prog Tryd.f6 (OpenSpec.ofChange Rows.gasDataSpec) false w args)
   (Rows.gasDataSpec.post enc Tryd.prog Tryd.f6 false true false false) := by
 refine returnsInHanded_of_change_and (C := Tryd.checked) (X := fun w _ => laidMetH Tryd.prog Rows.gasDataRow.laid w) (fun _ _ _ hh h => h.of_heap hh) (show ownKnob Tryd.prog.godebug = none by kernel_rfl) started (by kernel_rfl) Tryd.func6
  (ChangeSpec.witness_shaped (enc := enc) (C := Tryd.checked) (os := os) (X := fun w _ => laidMetH Tryd.prog Rows.gasDataRow.laid w) false (World.laidAll Tryd.prog os Rows.gasDataRow.laid) #[.string ⟨#[]⟩, .string ⟨#[]⟩, .agg #[.slice none 0 0, .slice none 0 0]] 8 (World.laidAll_os _ _ _)
   (World.shaped_of_ZipB (by kernel_rfl) (by kernel_rfl)) (by kernel_rfl) (by kernel_rfl) (by kernel_rfl)
   (by rw [MakeChecks.laidMetH_plain _ _ _ (by kernel_rfl)]; exact laidMet_laidAll _ (by kernel_rfl) (by kernel_rfl))) ?_
 intro W base args ds gs before hval0 hW _ hsz hL0 _
 have hval : ∀ (j : Nat) t v, Tryd.f6.params[j]? = some t → args[j]? = some v → Value.okWide Tryd.prog W .any base t v := hval0
 have hW' := hW
 obtain ⟨p, q, hA0, hV, rfl, _, _⟩ := hW
 have hA : DataW.TrodAll enc Tryd.prog W 0 (fun _ => true) true Tryd.f6.params.toList args.toList ds p := hA0
 have hp := Tryd.params6
 rw [hp] at hA hval hsz
 obtain ⟨v0, r0, d0, e0, p0, q0, hargs, rfl, rfl, h0, hr0⟩ := trodAll_cons hA
 obtain ⟨v1, r1, d1, e1, p1, q1, rfl, rfl, rfl, h1, hr1⟩ := trodAll_cons hr0
 obtain ⟨v2, r2, d2, e2, p2, q2, rfl, rfl, rfl, h2, hr2⟩ := trodAll_cons hr1
 obtain ⟨rfl, rfl, rfl⟩ := trodAll_nil hr2
 obtain rfl : args = #[v0, v1, v2] := Array.toList_inj.1 hargs
 clear hargs
 obtain ⟨rfl, rfl⟩ := trodVars_none hV
 obtain ⟨x0, rfl, rfl, rfl, g0⟩ := ChangeMaps.open_string Tryd.underlying9 (hval 0 _ _ rfl rfl) h0
 have m0 := sized_string hsz (j := 0) rfl rfl
 have w0 : x0.size ≤ 140737488355328 := by
  have e1 : x0.data.toList.length = x0.size := by simp
  have e2 := reachBytes_lt
  rw [e1] at m0
  omega
 obtain ⟨x1, rfl, rfl, rfl, g1⟩ := ChangeMaps.open_string Tryd.underlying9 (hval 1 _ _ rfl rfl) h1
 have m1 := sized_string hsz (j := 1) rfl rfl
 have w1 : x1.size ≤ 140737488355328 := by
  have e1 : x1.data.toList.length = x1.size := by simp
  have e2 := reachBytes_lt
  rw [e1] at m1
  omega
 obtain ⟨x2, y2, zx2, zy2, rfl, k2, l2⟩ := open_raw2 (hval 2 _ _ rfl rfl) h2
 clear hval0
 simp only [List.append_nil] at hW' hA0
 refine (data_any W x0 x1 w0 w1 x2 y2 zx2 zy2 k2 l2).mono fun e W' ⟨he, hw⟩ => ?_
 subst he
 exact ⟨_, rfl, post_read hW' rfl rfl rfl hA0 (by kernel_rfl) hw⟩
theorem gasData_holds : Rows.GasDataSaid :=
 OpenClaim.holds_of_wide 6 Tryd.f6 rfl rfl rfl rfl rfl rfl rfl ⟨rfl, rfl, rfl, rfl, rfl⟩ rfl rfl rfl rfl rfl (by kernel_rfl) Tryd.func6 (by kernel_rfl)
  (of_decide_eq_true (by kernel_rfl)) (by unfold Func.isWrapper; first | (rw [if_pos (by decide +kernel)]; kernel_rfl) | (rw [if_neg (by decide +kernel)]; exact ⟨rfl, rfl⟩))
  (fun os started H enc _ => gasData_lifted os started H enc)
theorem gasData_card : Rows.GasDataCardSaid :=
 Claim7.holds_tied_plain_at .later [] [.data, .pinned] true (true, "395d2463c8b2493250b593fac780326b0201a51d921835e66b7a0b9bbc88550d") false
  gasData_holds (fun _ h => by cases h) (by kernel_rfl) (fun _ h => by cases h) gasData_row_tie rfl ⟨rfl, rfl⟩ (by kernel_rfl) rfl
  (fun f fn hf hfn => by
   obtain rfl : f = 6 := Option.some.inj ((show Tryd.prog.funcNamed "railhead/railheadlaw15.GasData" = some 6 by kernel_rfl).symm.trans hf) |>.symm
   obtain rfl : fn = Tryd.f6 := (Option.some.inj (Tryd.func6.symm.trans hfn)).symm
   exact ⟨by kernel_rfl, fun j t ht => by
    rw [Tryd.params6] at ht
    have hm : t ∈ [27, 9] := by have := Array.mem_of_getElem? ht; simp at this; first | (simp; omega) | (rcases this with h | h <;> (simp [h]; done)) | (rcases this with h | h | h <;> (simp [h]; done)) | (rcases this with h | h | h | h <;> (simp [h]; done)) | (rcases this with h | h | h | h | h <;> (simp [h]; done)) | (rcases this with h | h | h | h | h | h <;> (simp [h]; done))
    have hall : ([27, 9].all fun u => !Tryd.prog.wantsStandIn u) = true := by kernel_rfl
    exact (show Tryd.prog.wantsStandIn t = false by simpa using List.all_eq_true.1 hall t hm)⟩)
  (by kernel_rfl)
#print axioms gasData_card
end Go.Proofs.YtlihnlkcgiopoaaDoor
