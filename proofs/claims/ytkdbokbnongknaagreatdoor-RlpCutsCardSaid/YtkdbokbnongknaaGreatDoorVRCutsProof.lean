import Derived.Test.YtkdbokbnongknaaGreatDoorVRCuts
import Derived.Test.YtkdbokbnongknaaGreatDoorVOpenR
import Derived.Test.YtkdbokbnongknaaGreatDoorVRawO
import Derived.Test.YtkdbokbnongknaaGreatDoorTie
import Derived.Test.YtkdbokbnongknaaGreatDoorCards
import Derived.SevenTiedAt
import Derived.Lay
import Derived.SizedLaws
import Derived.ChangeMaps5
import Derived.OpenShut
/- RlpCuts: at all inputs the law answers true, and changes no argument. Conditions: what the row lists of three variables of the library. -/
namespace Go.Proofs.YtkdbokbnongknaaGreatDoor
open Go Go.ChangeShapes Go.WideShapes Go.ChangeAt Go.RowKit

set_option maxRecDepth 100000 in
theorem rlpCuts_lifted (os : Os) (started : os.Started) (H : Type) (enc : TypeId × Value → H) :
    ReturnsInHanded {} Tryz.checked os 6 .any (fun w args => (Rows.rlpCutsSpec.pre enc Tryz.prog Tryz.f6 [] false w args ∧ laidMetH Tryz.prog Rows.rlpCutsRow.laid w) ∧ sizedMet enc Tryz.prog Tryz.f6 (OpenSpec.ofChange Rows.rlpCutsSpec) false w args)
      (Rows.rlpCutsSpec.post enc Tryz.prog Tryz.f6 false true false false) := by
  refine returnsInHanded_of_change_and (C := Tryz.checked) (X := fun w _ => laidMetH Tryz.prog Rows.rlpCutsRow.laid w) (fun _ _ _ hh h => h.of_heap hh) ownNone started (by kernel_rfl) Tryz.func6
    (ChangeSpec.witness_shaped (enc := enc) (C := Tryz.checked) (os := os) (X := fun w _ => laidMetH Tryz.prog Rows.rlpCutsRow.laid w) false (laidW os) #[.slice none 0 0, .int .i64 0, .string ⟨#[]⟩] 8 (laidW_os os)
      (laidW_shaped os _) (by kernel_rfl) (by kernel_rfl) (by kernel_rfl)
      (laidW_met os _)) ?_
  intro W base args ds gs before hval0 hW _ hsz hL0 _
  have hval : ∀ (j : Nat) t v, Tryz.f6.params[j]? = some t → args[j]? = some v → Value.okWide Tryz.prog W .any base t v := hval0
  have hT : TabE W := tab_of_laid hL0
  have hW' := hW
  obtain ⟨p, q, hA0, hV, rfl, _, _⟩ := hW
  have hA : DataW.TrodAll enc Tryz.prog W 0 (fun _ => true) true Tryz.f6.params.toList args.toList ds p := hA0
  have hp := Tryz.params6
  rw [hp] at hA hval hsz
  obtain ⟨v0, r0, d0, e0, p0, q0, hargs, rfl, rfl, h0, hr0⟩ := trodAll_cons hA
  obtain ⟨v1, r1, d1, e1, p1, q1, rfl, rfl, rfl, h1, hr1⟩ := trodAll_cons hr0
  obtain ⟨v2, r2, d2, e2, p2, q2, rfl, rfl, rfl, h2, hr2⟩ := trodAll_cons hr1
  obtain ⟨rfl, rfl, rfl⟩ := trodAll_nil hr2
  obtain rfl : args = #[v0, v1, v2] := Array.toList_inj.1 hargs
  clear hargs
  obtain ⟨rfl, rfl⟩ := trodVars_none hV
  obtain ⟨x0, k0⟩ := open_raw (hval 0 _ _ rfl rfl) h0
  obtain ⟨x1, rfl, rfl, rfl, g1⟩ := open_int Tryz.underlying3 (hval 1 _ _ rfl rfl) h1
  obtain ⟨x2, rfl, rfl, rfl, g2⟩ := ChangeMaps.open_string Tryz.underlying9 (hval 2 _ _ rfl rfl) h2
  have z2 := sized_string hsz (j := 2) rfl rfl
  have y2 : x2.size ≤ 140737488355328 := by
    have e1 : x2.data.toList.length = x2.size := by simp
    have e2 := reachBytes_lt
    rw [e1] at z2
    omega
  clear hval0
  simp only [List.append_nil] at hW' hA0
  refine (cuts_ret W hT v0 x0 k0 x1 (i64_of_wf g1) x2 y2).mono fun e W' ⟨he, hw⟩ => ?_
  subst he
  exact ⟨_, rfl, post_read hW' rfl rfl rfl hA0 (by kernel_rfl) hw⟩

theorem rlpCuts_holds : Rows.RlpCutsSaid :=
  OpenClaim.holds_of_wide 6 Tryz.f6 rfl rfl rfl rfl rfl rfl rfl ⟨rfl, rfl, rfl, rfl, rfl⟩ rfl rfl rfl rfl rfl (by kernel_rfl) Tryz.func6 (by kernel_rfl)
    (of_decide_eq_true (by kernel_rfl)) (by unfold Func.isWrapper; first | (rw [if_pos (by decide +kernel)]; kernel_rfl) | (rw [if_neg (by decide +kernel)]; exact ⟨rfl, rfl⟩))
    (fun os started H enc _ => rlpCuts_lifted os started H enc)

theorem rlpCuts_card : Rows.RlpCutsCardSaid :=
  Claim7.holds_tied_plain_at .later [] [.data, .handle, .pinned] true (true, "f69f335ad07d8267ea04bb091da61b1b98a674039ce6d0a948967c1353c6adaa") true
    rlpCuts_holds (fun _ h => by cases h) (by kernel_rfl) (fun _ h => by cases h) rlpCuts_row_tie rfl ⟨rfl, rfl⟩ (by kernel_rfl) rfl
    (fun f fn hf hfn => by
      obtain rfl : f = 6 := Option.some.inj ((show Tryz.prog.funcNamed "railhead/railheadlaw06.RlpCuts" = some 6 by kernel_rfl).symm.trans hf) |>.symm
      obtain rfl : fn = Tryz.f6 := (Option.some.inj (Tryz.func6.symm.trans hfn)).symm
      exact ⟨by kernel_rfl, fun j t ht => by
        rw [Tryz.params6] at ht
        have hm : t ∈ [22, 3, 9] := by have := Array.mem_of_getElem? ht; simp at this; first | (simp; omega) | (rcases this with h | h <;> (simp [h]; done)) | (rcases this with h | h | h <;> (simp [h]; done)) | (rcases this with h | h | h | h <;> (simp [h]; done))
        have hall : ([22, 3, 9].all fun u => !Tryz.prog.wantsStandIn u) = true := by kernel_rfl
        exact (show Tryz.prog.wantsStandIn t = false by simpa using List.all_eq_true.1 hall t hm)⟩)
    (by kernel_rfl)
#print axioms rlpCuts_card
end Go.Proofs.YtkdbokbnongknaaGreatDoor
