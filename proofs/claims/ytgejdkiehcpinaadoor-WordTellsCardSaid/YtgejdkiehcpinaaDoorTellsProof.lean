/- WordTells: at all inputs the law answers true, and changes no argument. Conditions: what the row lists of two tables of Go's library. -/
import Derived.Test.YtgejdkiehcpinaaDoorTellsRet
import Derived.Test.YtgejdkiehcpinaaDoorOpen
import Derived.Test.YtgejdkiehcpinaaDoorTie
import Derived.Test.YtgejdkiehcpinaaDoorCards
import Derived.SevenTiedAt
import Derived.Lay
import Derived.SizedLaws
import Derived.ChangeMaps5
import Derived.OpenShut
namespace Go.Proofs.YtgejdkiehcpinaaDoor
open Go Go.ChangeShapes Go.WideShapes Go.ChangeAt Go.RowKit

theorem i64_of_wf {x : Int} (h : (Lit.int .i64 x).wf = true) : I64 x := by
  have := bounds_i64 h
  unfold I64; omega

set_option maxRecDepth 100000 in
theorem tells_ret_lifted (os : Os) (started : os.Started) (H : Type) (enc : TypeId × Value → H) :
    ReturnsInHanded {} Tryd.checked os 3 .any (fun w args => (Rows.wordTellsSpec.pre enc Tryd.prog Tryd.f3 [] false w args ∧ laidMetH Tryd.prog Rows.wordTellsRow.laid w) ∧ sizedMet enc Tryd.prog Tryd.f3 (OpenSpec.ofChange Rows.wordTellsSpec) false w args)
      (Rows.wordTellsSpec.post enc Tryd.prog Tryd.f3 false true false false) := by
  refine returnsInHanded_of_change_and (C := Tryd.checked) (X := fun w _ => laidMetH Tryd.prog Rows.wordTellsRow.laid w) (fun _ _ _ hh h => h.of_heap hh) ownNone started (by kernel_rfl) Tryd.func3
    (ChangeSpec.witness_shaped (enc := enc) (C := Tryd.checked) (os := os) (X := fun w _ => laidMetH Tryd.prog Rows.wordTellsRow.laid w) false (World.laidAll Tryd.prog os Rows.wordTellsRow.laid) #[W4 0 0 0 0, W4 0 0 0 0, .int .i64 0, .string ⟨#[]⟩, .int .i64 0, .string ⟨#[]⟩] 8 (World.laidAll_os _ _ _)
      (World.shaped_of_ZipB (by kernel_rfl) (by kernel_rfl)) (by kernel_rfl) (by kernel_rfl) (by kernel_rfl)
      (by rw [MakeChecks.laidMetH_plain _ _ _ (by kernel_rfl)]; exact laidMet_laidAll _ (by kernel_rfl) (by kernel_rfl))) ?_
  intro W base args ds gs before hval0 hW _ hsz _ _
  have hval : ∀ (j : Nat) t v, Tryd.f3.params[j]? = some t → args[j]? = some v → Value.okWide Tryd.prog W .any base t v := hval0
  have hW' := hW
  obtain ⟨p, q, hA0, hV, rfl, _, _⟩ := hW
  have hA : DataW.TrodAll enc Tryd.prog W 0 (fun _ => true) true Tryd.f3.params.toList args.toList ds p := hA0
  have hp := Tryd.params3
  rw [hp] at hA hval hsz
  obtain ⟨v0, r0, d0, e0, p0, q0, hargs, rfl, rfl, h0, hr0⟩ := trodAll_cons hA
  obtain ⟨v1, r1, d1, e1, p1, q1, rfl, rfl, rfl, h1, hr1⟩ := trodAll_cons hr0
  obtain ⟨v2, r2, d2, e2, p2, q2, rfl, rfl, rfl, h2, hr2⟩ := trodAll_cons hr1
  obtain ⟨v3, r3, d3, e3, p3, q3, rfl, rfl, rfl, h3, hr3⟩ := trodAll_cons hr2
  obtain ⟨v4, r4, d4, e4, p4, q4, rfl, rfl, rfl, h4, hr4⟩ := trodAll_cons hr3
  obtain ⟨v5, r5, d5, e5, p5, q5, rfl, rfl, rfl, h5, hr5⟩ := trodAll_cons hr4
  obtain ⟨rfl, rfl, rfl⟩ := trodAll_nil hr5
  obtain rfl : args = #[v0, v1, v2, v3, v4, v5] := Array.toList_inj.1 hargs
  clear hargs
  obtain ⟨rfl, rfl⟩ := trodVars_none hV
  obtain ⟨x0, g0, rfl, rfl, k0⟩ := open_word (hval 0 _ _ rfl rfl) h0
  obtain ⟨x1, g1, rfl, rfl, k1⟩ := open_word (hval 1 _ _ rfl rfl) h1
  obtain ⟨x2, rfl, rfl, rfl, g2⟩ := open_int Tryd.underlying3 (hval 2 _ _ rfl rfl) h2
  obtain ⟨x3, rfl, rfl, rfl, g3⟩ := ChangeMaps.open_string Tryd.underlying9 (hval 3 _ _ rfl rfl) h3
  have z3 := sized_string hsz (j := 3) rfl rfl
  have y3 : x3.size ≤ 140737488355328 := by
    have e1 : x3.data.toList.length = x3.size := by simp
    have e2 := reachBytes_lt
    rw [e1] at z3
    omega
  have t3 : x3.size ≤ 140737488351232 := by
    have e1 : x3.data.toList.length = x3.size := by simp
    have e2 : reachBytes = 140737488351232 := rfl
    rw [e1] at z3
    omega
  obtain ⟨x4, rfl, rfl, rfl, g4⟩ := open_int Tryd.underlying3 (hval 4 _ _ rfl rfl) h4
  obtain ⟨x5, rfl, rfl, rfl, g5⟩ := ChangeMaps.open_string Tryd.underlying9 (hval 5 _ _ rfl rfl) h5
  have z5 := sized_string hsz (j := 5) rfl rfl
  have y5 : x5.size ≤ 140737488355328 := by
    have e1 : x5.data.toList.length = x5.size := by simp
    have e2 := reachBytes_lt
    rw [e1] at z5
    omega
  have t5 : x5.size ≤ 140737488351232 := by
    have e1 : x5.data.toList.length = x5.size := by simp
    have e2 : reachBytes = 140737488351232 := rfl
    rw [e1] at z5
    omega
  clear hA0 hval0
  simp only [List.append_nil] at hW'
  refine (tells_ret x0 x1 x2 x3 x4 x5 g0 g1 (i64_of_wf g2) t3 (i64_of_wf g4) t5 W).mono fun e W' ⟨he, hw⟩ => ?_
  subst he
  refine ⟨_, rfl, post_true hW' rfl rfl rfl (fun W' b' sp held => ?_) hw⟩
  rw [hp]
  exact (trodAll_cons_mk (k0 W' b' sp held) (trodAll_cons_mk (k1 W' b' sp held) (trodAll_cons_mk (shut_int Tryd.underlying3 g2) (trodAll_cons_mk (ChangeMaps.shut_string Tryd.underlying9 g3) (trodAll_cons_mk (shut_int Tryd.underlying3 g4) (trodAll_cons_mk (ChangeMaps.shut_string Tryd.underlying9 g5) trodAll_mk0))))))

theorem tells_ret_holds : Rows.WordTellsSaid :=
  OpenClaim.holds_of_wide 3 Tryd.f3 rfl rfl rfl rfl rfl rfl rfl ⟨rfl, rfl, rfl, rfl, rfl⟩ rfl rfl rfl rfl rfl (by kernel_rfl) Tryd.func3 (by kernel_rfl)
    (of_decide_eq_true (by kernel_rfl)) (by unfold Func.isWrapper; first | (rw [if_pos (by decide +kernel)]; kernel_rfl) | (rw [if_neg (by decide +kernel)]; exact ⟨rfl, rfl⟩))
    (fun os started H enc _ => tells_ret_lifted os started H enc)

theorem wordTells_card : Rows.WordTellsCardSaid :=
  Claim7.holds_tied_plain_at .later [] [.data, .pinned] true (true, "ac974b2d759a8d54108c3bc6490d2ce3433f0ae4bb95b620e9a4b1bc5917ce82") false
    tells_ret_holds (fun _ h => by cases h) (by kernel_rfl) (fun _ h => by cases h) wordTells_row_tie rfl ⟨rfl, rfl⟩ (by kernel_rfl) rfl
    (fun f fn hf hfn => by
      obtain rfl : f = 3 := Option.some.inj ((show Tryd.prog.funcNamed "railhead/railheadlaw01.WordTells" = some 3 by kernel_rfl).symm.trans hf) |>.symm
      obtain rfl : fn = Tryd.f3 := (Option.some.inj (Tryd.func3.symm.trans hfn)).symm
      exact ⟨by kernel_rfl, fun j t ht => by
        rw [Tryd.params3] at ht
        have hm : t ∈ [24, 3, 9] := by have := Array.mem_of_getElem? ht; simp at this; first | (simp; omega) | (rcases this with h | h | h <;> (simp [h]; done)) | (rcases this with h | h | h | h <;> (simp [h]; done)) | (rcases this with h | h | h | h | h <;> (simp [h]; done)) | (rcases this with h | h | h | h | h | h <;> (simp [h]; done))
        have hall : ([24, 3, 9].all fun u => !Tryd.prog.wantsStandIn u) = true := by kernel_rfl
        exact (show Tryd.prog.wantsStandIn t = false by simpa using List.all_eq_true.1 hall t hm)⟩)
    (by kernel_rfl)
#print axioms wordTells_card
end Go.Proofs.YtgejdkiehcpinaaDoor
