/- Part. -/
import Derived.Test.YtnkhmgmganejmaaGreatDoorTie
import Derived.Test.YtnkhmgmganejmaaGreatDoorCards
import Derived.LaidSub
import Derived.LaidLaws
import Derived.SevenTiedAt
import Derived.Lay
import Derived.SizedLaws
import Derived.ChangeMaps5
import Derived.OpenShut
import Derived.WalkKit
import Derived.Test.YtnkhmgmganejmaaGreatDoorT30
set_option maxRecDepth 100000
set_option maxHeartbeats 16000000
namespace Go.Proofs.YtnkhmgmganejmaaGreatDoor
open Go Go.ChangeShapes Go.WideShapes Go.ChangeAt Go.RowKit
theorem computeTells_lifted (os : Os) (started : os.Started) (H : Type) (enc : TypeId × Value → H) :
  ReturnsInHanded {} Tryz.checked os 3 .any (fun w args => (Rows.computeTellsSpec.pre enc Tryz.prog Tryz.f3 [] false w args ∧ laidMetH Tryz.prog Rows.computeTellsRow.laid w) ∧ sizedMet enc Tryz.prog Tryz.f3 (OpenSpec.ofChange Rows.computeTellsSpec) false w args)
   (Rows.computeTellsSpec.post enc Tryz.prog Tryz.f3 false true false false) := by
 refine returnsInHanded_of_change_and (C := Tryz.checked) (X := fun w _ => laidMetH Tryz.prog Rows.computeTellsRow.laid w) (fun _ _ _ hh h => h.of_heap hh) (show ownKnob Tryz.prog.godebug = none by kernel_rfl) started (by kernel_rfl) Tryz.func3
  (ChangeSpec.witness_shaped (enc := enc) (C := Tryz.checked) (os := os) (X := fun w _ => laidMetH Tryz.prog Rows.computeTellsRow.laid w) false (World.laidAll Tryz.prog os Rows.computeTellsRow.laid) #[.int .i64 0, W4 0 0 0 0, W4 0 0 0 0, W4 0 0 0 0, .int .i64 0, .bool false] 8 (World.laidAll_os _ _ _)
   (World.shaped_of_ZipB (by kernel_rfl) (by kernel_rfl)) (by kernel_rfl) (by kernel_rfl) (by kernel_rfl)
   (by rw [MakeChecks.laidMetH_plain _ _ _ (by kernel_rfl)]; exact laidMet_laidAll _ (by kernel_rfl) (by kernel_rfl))) ?_
 intro W base args ds gs before hval0 hW _ hsz hL0 _
 have hval : ∀ (j : Nat) t v, Tryz.f3.params[j]? = some t → args[j]? = some v → Value.okWide Tryz.prog W .any base t v := hval0
 have hT : Tab W := tab_of_laid hL0
 have hW' := hW
 obtain ⟨p, q, hA0, hV, rfl, _, _⟩ := hW
 have hA : DataW.TrodAll enc Tryz.prog W 0 (fun _ => true) true Tryz.f3.params.toList args.toList ds p := hA0
 have hp := Tryz.params3
 rw [hp] at hA hval hsz
 obtain ⟨v0, r0, d0, e0, p0, q0, hargs, rfl, rfl, h0, hr0⟩ := trodAll_cons hA
 obtain ⟨v1, r1, d1, e1, p1, q1, rfl, rfl, rfl, h1, hr1⟩ := trodAll_cons hr0
 obtain ⟨v2, r2, d2, e2, p2, q2, rfl, rfl, rfl, h2, hr2⟩ := trodAll_cons hr1
 obtain ⟨v3, r3, d3, e3, p3, q3, rfl, rfl, rfl, h3, hr3⟩ := trodAll_cons hr2
 obtain ⟨v4, r4, d4, e4, p4, q4, rfl, rfl, rfl, h4, hr4⟩ := trodAll_cons hr3
 obtain ⟨v5, r5, d5, e5, p5, q5, rfl, rfl, rfl, h5, hr5⟩ := trodAll_cons hr4
 obtain ⟨rfl, rfl, rfl⟩ := trodAll_nil hr5
 obtain rfl : args = #[v0, v1, v2, v3, v4, v5] := Array.toList_inj.1 hargs
 clear hargs
 obtain ⟨rfl, rfl⟩ := trodVars_none hV
 obtain ⟨x0, rfl, _, _, g0⟩ := open_int Tryz.underlying3 (hval 0 _ _ rfl rfl) h0
 obtain ⟨x1, g1, rfl, _, _⟩ := open_word (hval 1 _ _ rfl rfl) h1
 obtain ⟨x2, g2, rfl, _, _⟩ := open_word (hval 2 _ _ rfl rfl) h2
 obtain ⟨x3, g3, rfl, _, _⟩ := open_word (hval 3 _ _ rfl rfl) h3
 obtain ⟨x4, rfl, _, _, g4⟩ := open_int Tryz.underlying3 (hval 4 _ _ rfl rfl) h4
 obtain ⟨x5, rfl, _⟩ := open_bool Tryz.underlying4 (hval 5 _ _ rfl rfl) h5
 clear hval0
 simp only [List.append_nil] at hW' hA0
 refine (computeTells_any W hT x0 x4 x1 x2 x3 x5 g1 g2 g3 (i64_of_wf g0) (i64_of_wf g4)).mono fun e W' ⟨he, hw⟩ => ?_
 subst he
 exact ⟨_, rfl, post_read hW' rfl rfl rfl hA0 (by kernel_rfl) hw⟩
theorem computeTells_holds : Rows.ComputeTellsSaid :=
 OpenClaim.holds_of_wide 3 Tryz.f3 rfl rfl rfl rfl rfl rfl rfl ⟨rfl, rfl, rfl, rfl, rfl⟩ rfl rfl rfl rfl rfl (by kernel_rfl) Tryz.func3 (by kernel_rfl)
  (of_decide_eq_true (by kernel_rfl)) (by unfold Func.isWrapper; first | (rw [if_pos (by decide +kernel)]; kernel_rfl) | (rw [if_neg (by decide +kernel)]; exact ⟨rfl, rfl⟩))
  (fun os started H enc _ => computeTells_lifted os started H enc)
theorem computeTells_card : Rows.ComputeTellsCardSaid :=
 Claim7.holds_tied_plain_at .later [] [.data, .data, .data] true (true, "9fbae8e8c16a5b20e212f553c8129971376525960d6770ed66e54a104ccdb184") false
  computeTells_holds (fun _ h => by cases h) (by kernel_rfl) (fun _ h => by cases h) computeTells_row_tie rfl ⟨rfl, rfl⟩ (by kernel_rfl) rfl
  (fun f fn hf hfn => by
   obtain rfl : f = 3 := Option.some.inj ((show Tryz.prog.funcNamed "railhead/railheadlaw16.ComputeTells" = some 3 by kernel_rfl).symm.trans hf) |>.symm
   obtain rfl : fn = Tryz.f3 := (Option.some.inj (Tryz.func3.symm.trans hfn)).symm
   exact ⟨by kernel_rfl, fun j t ht => by
    rw [Tryz.params3] at ht
    have hm : t ∈ [4, 3, 24] := by have := Array.mem_of_getElem? ht; simp at this; first | (simp; omega) | (rcases this with h | h <;> (simp [h]; done)) | (rcases this with h | h | h <;> (simp [h]; done)) | (rcases this with h | h | h | h <;> (simp [h]; done)) | (rcases this with h | h | h | h | h <;> (simp [h]; done)) | (rcases this with h | h | h | h | h | h <;> (simp [h]; done))
    have hall : ([4, 3, 24].all fun u => !Tryz.prog.wantsStandIn u) = true := by kernel_rfl
    exact (show Tryz.prog.wantsStandIn t = false by simpa using List.all_eq_true.1 hall t hm)⟩)
  (by kernel_rfl)
#print axioms computeTells_card
end Go.Proofs.YtnkhmgmganejmaaGreatDoor
