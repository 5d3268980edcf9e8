/- The law AccessOrders: whole. Conditions: none. -/
import Derived.Test.YtfnkmafdmfljmaaAcN
import Derived.Test.YtfnkmafdmfljmaaAcH
import Derived.Test.YtfnkmafdmfljmaaAcJ
namespace Go.Proofs.Ytfnkmafdmfljmaa
open Go Go.RowKit
attribute [local go_sem] Oper.semAt_some Grows wide_fn
theorem accessOrders_ret (W : World) (a : Ky) (ha : KyOk a) (b : Ky) (hb : KyOk b) (c : Ky) (hc : KyOk c) :
    Calls Try.prog 4 #[.agg (kyC a), .agg (kyC b), .agg (kyC c)] W fun e w' => e = .returned (.bool true) ∧ Below W.heap.size W w' := by
  have h3 := kcmp_three a b c
  have hsp : (kcmp a b, kcmp b c, kcmp a c) ∈ [((-1 : Int), (-1 : Int), (-1 : Int)), (-1, 0, -1), (-1, 1, -1), (-1, 1, 0), (-1, 1, 1)] ∨ (kcmp a b, kcmp b c, kcmp a c) ∈ [((0 : Int), (-1 : Int), (-1 : Int)), (0, 0, 0), (0, 1, 1)] ∨ (kcmp a b, kcmp b c, kcmp a c) ∈ [((1 : Int), (-1 : Int), (-1 : Int)), (1, -1, 0), (1, -1, 1), (1, 0, 1), (1, 1, 1)] := by
    simp only [List.mem_cons, List.not_mem_nil, or_false] at h3 ⊢
    rcases h3 with h | h | h | h | h | h | h | h | h | h | h | h | h
    all_goals simp [h]
  rcases hsp with h | h | h
  · exact accessOrders_walk1 W (kyC a) (kyC b) (kyC c) (kyC ⟨a.at_, false, 0⟩) (adC a.at_) (kcmp a b) (kcmp b c) (kcmp a c) (kcmp ⟨a.at_, false, 0⟩ a) (kyC_one a) (kyC_one b) (kyC_one c)
        (Lib.hid fun X => korder_any X a b ha hb) (Lib.hid fun X => korder_any X b c hb hc) (Lib.hid fun X => korder_any X a c ha hc)
        (Lib.hid fun X => by rw [← kcmp_flip]; exact korder_any X b a hb ha)
        (Lib.hid fun X => korder_any X _ a ⟨ha.at_, by show W256 0; unfold W256; omega⟩ ha)
        (Lib.hid fun X => awake_any X)
        (Lib.hid fun _ _ h => h.kyLoad) (Lib.hid fun _ _ h => h.kyLoad) (Lib.hid fun _ _ h => h.kyLoad)
        (Lib.hid fun X B h => run_loadVar_at _ _ _ _ _ (fun j v hj => by
          have hlt : j < 20 := by have := (List.getElem?_eq_some_iff.1 hj).1; rwa [adL_len] at this
          rw [h.kyAd j hlt]
          simp [adL, hlt] at hj
          rw [hj]) Try.underlying26 rfl (by rw [adL_len]; exact infoAd))
        (fun X => by rw [← kcmp_eq]; exact eqKey a b ha hb X) (built_at a.at_) h (kcmp_whole a)
  · exact accessOrders_walk2 W (kyC a) (kyC b) (kyC c) (kyC ⟨a.at_, false, 0⟩) (adC a.at_) (kcmp a b) (kcmp b c) (kcmp a c) (kcmp ⟨a.at_, false, 0⟩ a) (kyC_one a) (kyC_one b) (kyC_one c)
        (Lib.hid fun X => korder_any X a b ha hb) (Lib.hid fun X => korder_any X b c hb hc) (Lib.hid fun X => korder_any X a c ha hc)
        (Lib.hid fun X => by rw [← kcmp_flip]; exact korder_any X b a hb ha)
        (Lib.hid fun X => korder_any X _ a ⟨ha.at_, by show W256 0; unfold W256; omega⟩ ha)
        (Lib.hid fun X => awake_any X)
        (Lib.hid fun _ _ h => h.kyLoad) (Lib.hid fun _ _ h => h.kyLoad) (Lib.hid fun _ _ h => h.kyLoad)
        (Lib.hid fun X B h => run_loadVar_at _ _ _ _ _ (fun j v hj => by
          have hlt : j < 20 := by have := (List.getElem?_eq_some_iff.1 hj).1; rwa [adL_len] at this
          rw [h.kyAd j hlt]
          simp [adL, hlt] at hj
          rw [hj]) Try.underlying26 rfl (by rw [adL_len]; exact infoAd))
        (fun X => by rw [← kcmp_eq]; exact eqKey a b ha hb X) (built_at a.at_) h (kcmp_whole a)
  · exact accessOrders_walk3 W (kyC a) (kyC b) (kyC c) (kyC ⟨a.at_, false, 0⟩) (adC a.at_) (kcmp a b) (kcmp b c) (kcmp a c) (kcmp ⟨a.at_, false, 0⟩ a) (kyC_one a) (kyC_one b) (kyC_one c)
        (Lib.hid fun X => korder_any X a b ha hb) (Lib.hid fun X => korder_any X b c hb hc) (Lib.hid fun X => korder_any X a c ha hc)
        (Lib.hid fun X => by rw [← kcmp_flip]; exact korder_any X b a hb ha)
        (Lib.hid fun X => korder_any X _ a ⟨ha.at_, by show W256 0; unfold W256; omega⟩ ha)
        (Lib.hid fun X => awake_any X)
        (Lib.hid fun _ _ h => h.kyLoad) (Lib.hid fun _ _ h => h.kyLoad) (Lib.hid fun _ _ h => h.kyLoad)
        (Lib.hid fun X B h => run_loadVar_at _ _ _ _ _ (fun j v hj => by
          have hlt : j < 20 := by have := (List.getElem?_eq_some_iff.1 hj).1; rwa [adL_len] at this
          rw [h.kyAd j hlt]
          simp [adL, hlt] at hj
          rw [hj]) Try.underlying26 rfl (by rw [adL_len]; exact infoAd))
        (fun X => by rw [← kcmp_eq]; exact eqKey a b ha hb X) (built_at a.at_) h (kcmp_whole a)
end Go.Proofs.Ytfnkmafdmfljmaa
