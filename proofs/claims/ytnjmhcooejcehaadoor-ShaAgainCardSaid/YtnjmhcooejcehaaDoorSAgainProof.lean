/- ShaAgain: at all inputs the law answers true, and changes no argument. Conditions: what the row lists of two tables of the program. -/
import Derived.Test.YtnjmhcooejcehaaDoorSAgain
import Derived.Test.YtnjmhcooejcehaaDoorOpenS
import Derived.Test.YtnjmhcooejcehaaDoorTie
import Derived.Test.YtnjmhcooejcehaaDoorCards
import Derived.SevenTiedAt
import Derived.Lay
import Derived.SizedLaws
import Derived.ChangeMaps5
import Derived.OpenShut
namespace Go.Proofs.YtnjmhcooejcehaaDoor
open Go Go.ChangeShapes Go.WideShapes Go.ChangeAt Go.RowKit

set_option maxRecDepth 100000 in
theorem shaAgain_lifted (os : Os) (started : os.Started) (H : Type) (enc : TypeId × Value → H) :
    ReturnsInHanded {} Tryd.checked os 7 .any (fun w args => (Rows.shaAgainSpec.pre enc Tryd.prog Tryd.f7 [] false w args ∧ laidMetH Tryd.prog Rows.shaAgainRow.laid w) ∧ sizedMet enc Tryd.prog Tryd.f7 (OpenSpec.ofChange Rows.shaAgainSpec) false w args)
      (Rows.shaAgainSpec.post enc Tryd.prog Tryd.f7 false true false false) := by
  refine returnsInHanded_of_change_and (C := Tryd.checked) (X := fun w _ => laidMetH Tryd.prog Rows.shaAgainRow.laid w) (fun _ _ _ hh h => h.of_heap hh) ownNone started (by kernel_rfl) Tryd.func7
    (ChangeSpec.witness_shaped (enc := enc) (C := Tryd.checked) (os := os) (X := fun w _ => laidMetH Tryd.prog Rows.shaAgainRow.laid w) false (World.laidAll Tryd.prog os Rows.shaAgainRow.laid) #[.string ⟨#[]⟩] 8 (World.laidAll_os _ _ _)
      (World.shaped_of_ZipB (by kernel_rfl) (by kernel_rfl)) (by kernel_rfl) (by kernel_rfl) (by kernel_rfl)
      (by rw [MakeChecks.laidMetH_plain _ _ _ (by kernel_rfl)]; exact laidMet_laidAll _ (by kernel_rfl) (by kernel_rfl))) ?_
  intro W base args ds gs before hval0 hW _ hsz hL0 _
  have hval : ∀ (j : Nat) t v, Tryd.f7.params[j]? = some t → args[j]? = some v → Value.okWide Tryd.prog W .any base t v := hval0
  have hT : Tab W := tab_of_laid hL0
  have hW' := hW
  obtain ⟨p, q, hA0, hV, rfl, _, _⟩ := hW
  have hA : DataW.TrodAll enc Tryd.prog W 0 (fun _ => true) true Tryd.f7.params.toList args.toList ds p := hA0
  have hp := Tryd.params7
  rw [hp] at hA hval hsz
  obtain ⟨v0, r0, d0, e0, p0, q0, hargs, rfl, rfl, h0, hr0⟩ := trodAll_cons hA
  obtain ⟨rfl, rfl, rfl⟩ := trodAll_nil hr0
  obtain rfl : args = #[v0] := Array.toList_inj.1 hargs
  clear hargs
  obtain ⟨rfl, rfl⟩ := trodVars_none hV
  obtain ⟨x0, rfl, rfl, rfl, g0⟩ := ChangeMaps.open_string Tryd.underlying9 (hval 0 _ _ rfl rfl) h0
  have z0 := sized_string hsz (j := 0) rfl rfl
  have y0 : x0.size ≤ 140737488355328 := by
    have e1 : x0.data.toList.length = x0.size := by simp
    have e2 := reachBytes_lt
    rw [e1] at z0
    omega
  clear hA0 hval0
  simp only [List.append_nil] at hW'
  refine (sAgain_ret x0 y0 W hT).mono fun e W' ⟨he, hw⟩ => ?_
  subst he
  refine ⟨_, rfl, post_true hW' rfl rfl rfl (fun W' b' sp held => ?_) hw⟩
  rw [hp]
  exact (trodAll_cons_mk (ChangeMaps.shut_string Tryd.underlying9 g0) trodAll_mk0)

theorem shaAgain_holds : Rows.ShaAgainSaid :=
  OpenClaim.holds_of_wide 7 Tryd.f7 rfl rfl rfl rfl rfl rfl rfl ⟨rfl, rfl, rfl, rfl, rfl⟩ rfl rfl rfl rfl rfl (by kernel_rfl) Tryd.func7 (by kernel_rfl)
    (of_decide_eq_true (by kernel_rfl)) (by unfold Func.isWrapper; first | (rw [if_pos (by decide +kernel)]; kernel_rfl) | (rw [if_neg (by decide +kernel)]; exact ⟨rfl, rfl⟩))
    (fun os started H enc _ => shaAgain_lifted os started H enc)

theorem shaAgain_card : Rows.ShaAgainCardSaid :=
  Claim7.holds_tied_plain_at .later [] [.data, .data] true (true, "18e5c003be3a7d9efd9cbc80647969a97400899806273750d87a9403dbec834d") false
    shaAgain_holds (fun _ h => by cases h) (by kernel_rfl) (fun _ h => by cases h) shaAgain_row_tie rfl ⟨rfl, rfl⟩ (by kernel_rfl) rfl
    (fun f fn hf hfn => by
      obtain rfl : f = 7 := Option.some.inj ((show Tryd.prog.funcNamed "railhead/railheadlaw05.ShaAgain" = some 7 by kernel_rfl).symm.trans hf) |>.symm
      obtain rfl : fn = Tryd.f7 := (Option.some.inj (Tryd.func7.symm.trans hfn)).symm
      exact ⟨by kernel_rfl, fun j t ht => by
        rw [Tryd.params7] at ht
        have hm : t ∈ [9] := by have := Array.mem_of_getElem? ht; simp at this; first | (simp; omega) | (rcases this with h | h | h <;> (simp [h]; done)) | (rcases this with h | h | h | h <;> (simp [h]; done))
        have hall : ([9].all fun u => !Tryd.prog.wantsStandIn u) = true := by kernel_rfl
        exact (show Tryd.prog.wantsStandIn t = false by simpa using List.all_eq_true.1 hall t hm)⟩)
    (by kernel_rfl)
#print axioms shaAgain_card
end Go.Proofs.YtnjmhcooejcehaaDoor
