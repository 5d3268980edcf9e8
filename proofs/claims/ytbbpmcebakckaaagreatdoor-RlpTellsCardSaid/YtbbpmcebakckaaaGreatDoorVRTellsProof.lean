import Derived.Test.YtbbpmcebakckaaaGreatDoorVRTells
import Derived.Test.YtbbpmcebakckaaaGreatDoorVOpenR
import Derived.Test.YtbbpmcebakckaaaGreatDoorVRawO
import Derived.Test.YtbbpmcebakckaaaGreatDoorTie
import Derived.Test.YtbbpmcebakckaaaGreatDoorCards
import Derived.SevenTiedAt
import Derived.Lay
import Derived.SizedLaws
import Derived.ChangeMaps5
import Derived.OpenShut
/- RlpTells: at all inputs the law answers true, and changes no argument. Conditions: what the row lists of three variables of the library. -/
namespace Go.Proofs.YtbbpmcebakckaaaGreatDoor
open Go Go.ChangeShapes Go.WideShapes Go.ChangeAt Go.RowKit

set_option maxRecDepth 100000 in
theorem rlpTells_lifted (os : Os) (started : os.Started) (H : Type) (enc : TypeId × Value → H) :
    ReturnsInHanded {} Tryz.checked os 3 .any (fun w args => (Rows.rlpTellsSpec.pre enc Tryz.prog Tryz.f3 [] false w args ∧ laidMetH Tryz.prog Rows.rlpTellsRow.laid w) ∧ sizedMet enc Tryz.prog Tryz.f3 (OpenSpec.ofChange Rows.rlpTellsSpec) false w args)
      (Rows.rlpTellsSpec.post enc Tryz.prog Tryz.f3 false true false false) := by
  refine returnsInHanded_of_change_and (C := Tryz.checked) (X := fun w _ => laidMetH Tryz.prog Rows.rlpTellsRow.laid w) (fun _ _ _ hh h => h.of_heap hh) ownNone started (by kernel_rfl) Tryz.func3
    (ChangeSpec.witness_shaped (enc := enc) (C := Tryz.checked) (os := os) (X := fun w _ => laidMetH Tryz.prog Rows.rlpTellsRow.laid w) false (laidW os) #[.string ⟨#[]⟩, .slice none 0 0, W4 0 0 0 0, .int .i64 0, .string ⟨#[]⟩, .bool false] 8 (laidW_os os)
      (laidW_shaped os _) (by kernel_rfl) (by kernel_rfl) (by kernel_rfl)
      (laidW_met os _)) ?_
  intro W base args ds gs before hval0 hW _ hsz hL0 _
  have hval : ∀ (j : Nat) t v, Tryz.f3.params[j]? = some t → args[j]? = some v → Value.okWide Tryz.prog W .any base t v := hval0
  have hT : TabE W := tab_of_laid hL0
  have hW' := hW
  obtain ⟨p, q, hA0, hV, rfl, _, _⟩ := hW
  have hA : DataW.TrodAll enc Tryz.prog W 0 (fun _ => true) true Tryz.f3.params.toList args.toList ds p := hA0
  have hp := Tryz.params3
  rw [hp] at hA hval hsz
  obtain ⟨v0, r0, d0, e0, p0, q0, hargs, rfl, rfl, h0, hr0⟩ := trodAll_cons hA
  obtain ⟨v1, r1, d1, e1, p1, q1, rfl, rfl, rfl, h1, hr1⟩ := trodAll_cons hr0
  obtain ⟨v2, r2, d2, e2, p2, q2, rfl, rfl, rfl, h2, hr2⟩ := trodAll_cons hr1
  obtain ⟨v3, r3, d3, e3, p3, q3, rfl, rfl, rfl, h3, hr3⟩ := trodAll_cons hr2
  obtain ⟨v4, r4, d4, e4, p4, q4, rfl, rfl, rfl, h4, hr4⟩ := trodAll_cons hr3
  obtain ⟨v5, r5, d5, e5, p5, q5, rfl, rfl, rfl, h5, hr5⟩ := trodAll_cons hr4
  obtain ⟨rfl, rfl, rfl⟩ := trodAll_nil hr5
  obtain rfl : args = #[v0, v1, v2, v3, v4, v5] := Array.toList_inj.1 hargs
  clear hargs
  obtain ⟨rfl, rfl⟩ := trodVars_none hV
  obtain ⟨x0, rfl, rfl, rfl, g0⟩ := ChangeMaps.open_string Tryz.underlying9 (hval 0 _ _ rfl rfl) h0
  have z0 := sized_string hsz (j := 0) rfl rfl
  have y0 : x0.size ≤ 140737488355328 := by
    have e1 : x0.data.toList.length = x0.size := by simp
    have e2 := reachBytes_lt
    rw [e1] at z0
    omega
  obtain ⟨x1, k1⟩ := open_raw (hval 1 _ _ rfl rfl) h1
  obtain ⟨x2, g2, rfl, rfl, k2⟩ := open_word (hval 2 _ _ rfl rfl) h2
  obtain ⟨x3, rfl, rfl, rfl, g3⟩ := open_int Tryz.underlying3 (hval 3 _ _ rfl rfl) h3
  obtain ⟨x4, rfl, rfl, rfl, g4⟩ := ChangeMaps.open_string Tryz.underlying9 (hval 4 _ _ rfl rfl) h4
  have z4 := sized_string hsz (j := 4) rfl rfl
  have y4 : x4.size ≤ 140737488355328 := by
    have e1 : x4.data.toList.length = x4.size := by simp
    have e2 := reachBytes_lt
    rw [e1] at z4
    omega
  obtain ⟨x5, rfl, _⟩ := open_bool Tryz.underlying4 (hval 5 _ _ rfl rfl) h5
  clear hval0
  simp only [List.append_nil] at hW' hA0
  refine (rtells_ret W hT x0 y0 v1 x1 k1 x2 g2 x3 (i64_of_wf g3) x4 y4 x5).mono fun e W' ⟨he, hw⟩ => ?_
  subst he
  exact ⟨_, rfl, post_read hW' rfl rfl rfl hA0 (by kernel_rfl) hw⟩

theorem rlpTells_holds : Rows.RlpTellsSaid :=
  OpenClaim.holds_of_wide 3 Tryz.f3 rfl rfl rfl rfl rfl rfl rfl ⟨rfl, rfl, rfl, rfl, rfl⟩ rfl rfl rfl rfl rfl (by kernel_rfl) Tryz.func3 (by kernel_rfl)
    (of_decide_eq_true (by kernel_rfl)) (by unfold Func.isWrapper; first | (rw [if_pos (by decide +kernel)]; kernel_rfl) | (rw [if_neg (by decide +kernel)]; exact ⟨rfl, rfl⟩))
    (fun os started H enc _ => rlpTells_lifted os started H enc)

theorem rlpTells_card : Rows.RlpTellsCardSaid :=
  Claim7.holds_tied_plain_at .later [] [.data, .handle, .pinned] true (true, "912cb0837d9efb50697cf4e26f8e5b10ada957ec6f4e820cef6cba4be946d647") true
    rlpTells_holds (fun _ h => by cases h) (by kernel_rfl) (fun _ h => by cases h) rlpTells_row_tie rfl ⟨rfl, rfl⟩ (by kernel_rfl) rfl
    (fun f fn hf hfn => by
      obtain rfl : f = 3 := Option.some.inj ((show Tryz.prog.funcNamed "railhead/railheadlaw06.RlpTells" = some 3 by kernel_rfl).symm.trans hf) |>.symm
      obtain rfl : fn = Tryz.f3 := (Option.some.inj (Tryz.func3.symm.trans hfn)).symm
      exact ⟨by kernel_rfl, fun j t ht => by
        rw [Tryz.params3] at ht
        have hm : t ∈ [22, 25, 4, 3, 9] := by have := Array.mem_of_getElem? ht; simp at this; first | (simp; omega) | (rcases this with h | h <;> (simp [h]; done)) | (rcases this with h | h | h <;> (simp [h]; done)) | (rcases this with h | h | h | h <;> (simp [h]; done)) | (rcases this with h | h | h | h | h <;> (simp [h]; done)) | (rcases this with h | h | h | h | h | h <;> (simp [h]; done))
        have hall : ([22, 25, 4, 3, 9].all fun u => !Tryz.prog.wantsStandIn u) = true := by kernel_rfl
        exact (show Tryz.prog.wantsStandIn t = false by simpa using List.all_eq_true.1 hall t hm)⟩)
    (by kernel_rfl)
#print axioms rlpTells_card
end Go.Proofs.YtbbpmcebakckaaaGreatDoor
