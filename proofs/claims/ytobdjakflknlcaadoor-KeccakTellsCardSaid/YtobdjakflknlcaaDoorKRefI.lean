/- The reference's Pad is the program's. For all texts of which the model can speak. -/
import Derived.Test.YtobdjakflknlcaaDoorKRefH
namespace Go.Proofs.YtobdjakflknlcaaDoor
open Go Go.RowKit Go.Shelf
attribute [local go_sem] Oper.semAt_some Grows wide_fn field0

set_option maxRecDepth 100000 in
set_option maxHeartbeats 4000000 in
theorem refPad_ret (s : ByteArray) (hs : s.size ≤ 1073741824) : Ret Tryd.prog 11 #[.string s] (.string (padS s)) := by
  intro w
  have hr : s.size % 136 < 136 := Nat.mod_lt _ (by omega)
  have e1 : ((s.size : Nat) : Int).tmod 136 = ((s.size % 136 : Nat) : Int) := by rw [Int.tmod_eq_emod_of_nonneg (by omega)]; omega
  have e2 : (136 : Int) - ((s.size % 136 : Nat) : Int) = ((pmN s + 1 : Nat) : Int) := by unfold pmN; omega
  have hm : pmN s < 136 := by unfold pmN; omega
  have hmk := run_mkB w (pmN s + 1) (by omega)
  have LM := Has.new w 5 (ubC (pmN s + 1) fun _ => 0)
  have Q := (Below.refl w.heap.size w).alloc (Nat.le_refl _) (.cells (ubC (pmN s + 1) fun _ => 0) 5)
  obtain ⟨W1, hW1⟩ : ∃ W1, w.alloc (.cells (ubC (pmN s + 1) fun _ => 0) 5) = W1 := ⟨_, rfl⟩
  rw [hW1] at hmk LM Q
  clear hW1
  have HP : Hid (padS s = s ++ ⟨(pcL (pmN s)).toArray⟩) := Lib.hid rfl
  have hz0 := LM.cell 0 _ (ubC_get _ _ 0 (by omega))
  have hf0 := LM.frozen 0
  have L1 := LM.set 0 (.int .u8 ((1 : Nat) : Int))
  have hsl : ((s.size : Nat) : Int) ≤ 1073741824 := by omega
  generalize pmN s = m at *
  rw [ubC_set (m + 1) _ (fun j => if j = 0 then 1 else 0) 0 1 (fun j _ => rfl)] at L1
  have hv0 : (if m = 0 then 1 else 0) ≤ 1 := by split <;> omega
  have hpm : pcN m m = (if m = 0 then 1 else 0) + 128 := by unfold pcN; rw [if_pos rfl]
  have hcm := L1.cell m _ (ubC_get _ _ m (by omega))
  have hL := L1.set m (.int .u8 ((pcN m m : Nat) : Int))
  rw [ubC_set (m + 1) _ (pcN m) m (pcN m m) (fun j _ => pcN_at m j), hpm] at hL
  generalize (if m = 0 then 1 else 0 : Nat) = v0 at *
  have hcv := conv_back (cap := m + 1) (pcN_lt m) hL
  have hfm := L1.frozen m
  have HQ := Lib.hid ((Q.setCell (p := ⟨w.heap.size, 0, none⟩) (Nat.le_refl _) (.int .u8 1)).setCell (p := ⟨w.heap.size, m, none⟩) (Nat.le_refl _) (.int .u8 ((v0 + 128 : Nat) : Int)))
  have hmI : (m : Int) < 136 := by omega
  have hvI : (v0 : Int) ≤ 1 := by omega
  have e3 : (136 : Int) - ((s.size % 136 : Nat) : Int) = (m : Int) + 1 := by omega
  rw [show ((m + 1 : Nat) : Int) = (m : Int) + 1 from rfl] at hmk
  simp only [Int.natCast_add, Int.natCast_one, Int.cast_ofNat_Int] at hcv HQ hz0 hcm hf0 hfm
  change (convert _ _ (.slice _ (m + 1) (m + 1))).run _ _ = .ok (.string ⟨(pcL m).toArray⟩) _ at hcv
  have hpl : ¬ 9223372036854775807 < s.size + (pcL m).length := by simp [pcL]; omega
  clear LM Q L1 hL hs e2 hm hpm hv0
  generalize ((s.size % 136 : Nat) : Int) = r at *
  generalize pcL m = pl at *
  go_enter Tryd.func11, Tryd.ntmps11
  go_wp2
  go_ret
  rw [HP.out]
  exact ⟨rfl, HQ.out⟩
end Go.Proofs.YtobdjakflknlcaaDoor
