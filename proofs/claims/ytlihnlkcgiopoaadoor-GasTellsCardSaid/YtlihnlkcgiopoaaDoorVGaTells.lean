/- Part. -/
import Derived.Test.YtlihnlkcgiopoaaDoorTie
import Derived.Test.YtlihnlkcgiopoaaDoorCards
import Derived.LaidSub
import Derived.LaidLaws
import Derived.SevenTiedAt
import Derived.Lay
import Derived.SizedLaws
import Derived.ChangeMaps5
import Derived.OpenShut
import Derived.WalkKit
import Derived.Test.YtlihnlkcgiopoaaDoorJ13
import Derived.Test.YtlihnlkcgiopoaaDoorJ12
import Derived.Test.YtlihnlkcgiopoaaDoorJ14
set_option maxRecDepth 100000
set_option maxHeartbeats 16000000
namespace Go.Proofs.YtlihnlkcgiopoaaDoor
open Go Go.ChangeShapes Go.WideShapes Go.ChangeAt Go.RowKit
theorem gasTells_lifted (os : Os) (started : os.Started) (H : Type) (enc : TypeId × Value → H) :
  ReturnsInHanded {} Tryd.checked os 3 .any (fun w args => (Rows.gasTellsSpec.pre enc Tryd.prog Tryd.f3 [] false w args ∧ laidMetH Tryd.prog Rows.gasTellsRow.laid w) ∧ sizedMet enc Tryd.prog Tryd.f3 (OpenSpec.ofChange Rows.gasTellsSpec) false w args)
   (Rows.gasTellsSpec.post enc Tryd.prog Tryd.f3 false true false false) := by
 refine returnsInHanded_of_change_and (C := Tryd.checked) (X := fun w _ => laidMetH Tryd.prog Rows.gasTellsRow.laid w) (fun _ _ _ hh h => h.of_heap hh) (show ownKnob Tryd.prog.godebug = none by kernel_rfl) started (by kernel_rfl) Tryd.func3
  (ChangeSpec.witness_shaped (enc := enc) (C := Tryd.checked) (os := os) (X := fun w _ => laidMetH Tryd.prog Rows.gasTellsRow.laid w) false (World.laidAll Tryd.prog os Rows.gasTellsRow.laid) #[W4 0 0 0 0, W4 0 0 0 0, W4 0 0 0 0, .int .i64 0, .int .i64 0, .agg #[.bool false, .bool false, .bool false], .agg #[.slice none 0 0, .slice none 0 0], .agg #[.slice none 0 0, .slice none 0 0], .string ⟨#[]⟩] 8 (World.laidAll_os _ _ _)
   (World.shaped_of_ZipB (by kernel_rfl) (by kernel_rfl)) (by kernel_rfl) (by kernel_rfl) (by kernel_rfl)
   (by rw [MakeChecks.laidMetH_plain _ _ _ (by kernel_rfl)]; exact laidMet_laidAll _ (by kernel_rfl) (by kernel_rfl))) ?_
 intro W base args ds gs before hval0 hW _ hsz hL0 _
 have hval : ∀ (j : Nat) t v, Tryd.f3.params[j]? = some t → args[j]? = some v → Value.okWide Tryd.prog W .any base t v := hval0
 have hW' := hW
 obtain ⟨p, q, hA0, hV, rfl, _, _⟩ := hW
 have hA : DataW.TrodAll enc Tryd.prog W 0 (fun _ => true) true Tryd.f3.params.toList args.toList ds p := hA0
 have hp := Tryd.params3
 rw [hp] at hA hval hsz
 obtain ⟨v0, r0, d0, e0, p0, q0, hargs, rfl, rfl, h0, hr0⟩ := trodAll_cons hA
 obtain ⟨v1, r1, d1, e1, p1, q1, rfl, rfl, rfl, h1, hr1⟩ := trodAll_cons hr0
 obtain ⟨v2, r2, d2, e2, p2, q2, rfl, rfl, rfl, h2, hr2⟩ := trodAll_cons hr1
 obtain ⟨v3, r3, d3, e3, p3, q3, rfl, rfl, rfl, h3, hr3⟩ := trodAll_cons hr2
 obtain ⟨v4, r4, d4, e4, p4, q4, rfl, rfl, rfl, h4, hr4⟩ := trodAll_cons hr3
 obtain ⟨v5, r5, d5, e5, p5, q5, rfl, rfl, rfl, h5, hr5⟩ := trodAll_cons hr4
 obtain ⟨v6, r6, d6, e6, p6, q6, rfl, rfl, rfl, h6, hr6⟩ := trodAll_cons hr5
 obtain ⟨v7, r7, d7, e7, p7, q7, rfl, rfl, rfl, h7, hr7⟩ := trodAll_cons hr6
 obtain ⟨v8, r8, d8, e8, p8, q8, rfl, rfl, rfl, h8, hr8⟩ := trodAll_cons hr7
 obtain ⟨rfl, rfl, rfl⟩ := trodAll_nil hr8
 obtain rfl : args = #[v0, v1, v2, v3, v4, v5, v6, v7, v8] := Array.toList_inj.1 hargs
 clear hargs
 obtain ⟨rfl, rfl⟩ := trodVars_none hV
 obtain ⟨x0, g0, rfl, _, _⟩ := open_word (hval 0 _ _ rfl rfl) h0
 obtain ⟨x1, g1, rfl, _, _⟩ := open_word (hval 1 _ _ rfl rfl) h1
 obtain ⟨x2, g2, rfl, _, _⟩ := open_word (hval 2 _ _ rfl rfl) h2
 obtain ⟨x3, rfl, _, _, g3⟩ := open_int Tryd.underlying3 (hval 3 _ _ rfl rfl) h3
 obtain ⟨x4, rfl, _, _, g4⟩ := open_int Tryd.underlying3 (hval 4 _ _ rfl rfl) h4
 obtain ⟨x5, y5, z5, rfl⟩ := open_flags (hval 5 _ _ rfl rfl) h5
 obtain ⟨x6, y6, zx6, zy6, rfl, k6, l6⟩ := open_raw2 (hval 6 _ _ rfl rfl) h6
 obtain ⟨x7, y7, k7⟩ := open_sets (hval 7 _ _ rfl rfl) h7
 obtain ⟨x8, rfl, rfl, rfl, g8⟩ := ChangeMaps.open_string Tryd.underlying9 (hval 8 _ _ rfl rfl) h8
 have m8 := sized_string hsz (j := 8) rfl rfl
 have w8 : x8.size ≤ 140737488355328 := by
  have e1 : x8.data.toList.length = x8.size := by simp
  have e2 := reachBytes_lt
  rw [e1] at m8
  omega
 clear hval0
 simp only [List.append_nil] at hW' hA0
 refine (tells15_sets W x0 x1 x2 g0 g1 g2 x3 x4 (i64_of_wf g3) (i64_of_wf g4) x5 y5 z5 x6 y6 zx6 zy6 k6 l6 v7 x7 y7 k7 x8 w8).mono fun e W' ⟨he, hw⟩ => ?_
 subst he
 exact ⟨_, rfl, post_read hW' rfl rfl rfl hA0 (by kernel_rfl) hw⟩
theorem gasTells_holds : Rows.GasTellsSaid :=
 OpenClaim.holds_of_wide 3 Tryd.f3 rfl rfl rfl rfl rfl rfl rfl ⟨rfl, rfl, rfl, rfl, rfl⟩ rfl rfl rfl rfl rfl (by kernel_rfl) Tryd.func3 (by kernel_rfl)
  (of_decide_eq_true (by kernel_rfl)) (by unfold Func.isWrapper; first | (rw [if_pos (by decide +kernel)]; kernel_rfl) | (rw [if_neg (by decide +kernel)]; exact ⟨rfl, rfl⟩))
  (fun os started H enc _ => gasTells_lifted os started H enc)
theorem gasTells_card : Rows.GasTellsCardSaid :=
 Claim7.holds_tied_plain_at .later [] [.data, .pinned] true (true, "395d2463c8b2493250b593fac780326b0201a51d921835e66b7a0b9bbc88550d") false
  gasTells_holds (fun _ h => by cases h) (by kernel_rfl) (fun _ h => by cases h) gasTells_row_tie rfl ⟨rfl, rfl⟩ (by kernel_rfl) rfl
  (fun f fn hf hfn => by
   obtain rfl : f = 3 := Option.some.inj ((show Tryd.prog.funcNamed "railhead/railheadlaw15.GasTells" = some 3 by kernel_rfl).symm.trans hf) |>.symm
   obtain rfl : fn = Tryd.f3 := (Option.some.inj (Tryd.func3.symm.trans hfn)).symm
   exact ⟨by kernel_rfl, fun j t ht => by
    rw [Tryd.params3] at ht
    have hm : t ∈ [27, 25, 3, 30, 24, 9] := by have := Array.mem_of_getElem? ht; simp at this; first | (simp; omega) | (rcases this with h | h <;> (simp [h]; done)) | (rcases this with h | h | h <;> (simp [h]; done)) | (rcases this with h | h | h | h <;> (simp [h]; done)) | (rcases this with h | h | h | h | h <;> (simp [h]; done)) | (rcases this with h | h | h | h | h | h <;> (simp [h]; done))
    have hall : ([27, 25, 3, 30, 24, 9].all fun u => !Tryd.prog.wantsStandIn u) = true := by kernel_rfl
    exact (show Tryd.prog.wantsStandIn t = false by simpa using List.all_eq_true.1 hall t hm)⟩)
  (by kernel_rfl)
#print axioms gasTells_card
end Go.Proofs.YtlihnlkcgiopoaaDoor
