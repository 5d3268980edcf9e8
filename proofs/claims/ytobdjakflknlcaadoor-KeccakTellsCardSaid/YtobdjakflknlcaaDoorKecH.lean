/- Pad: a text and what is put behind it. For all texts of which the model can speak. -/
import Derived.Test.YtobdjakflknlcaaDoorKecG
import Derived.Laws.MakeOwn
import Derived.Laws.IdiomStrings
namespace Go.Proofs.YtobdjakflknlcaaDoor
open Go Go.RowKit Go.Shelf
attribute [local go_sem] Oper.semAt_some Grows wide_fn field0

/-- Bytes, as cells. -/
def ubC (n : Nat) (A : Nat → Nat) : Array Value := ((List.range n).map fun i => Value.int .u8 ((A i : Nat) : Int)).toArray
theorem ubC_size (n : Nat) (A : Nat → Nat) : (ubC n A).size = n := by simp [ubC]
theorem ubC_get (n : Nat) (A : Nat → Nat) (j : Nat) (h : j < n) : (ubC n A)[j]? = some (.int .u8 ((A j : Nat) : Int)) := by simp [ubC, h]
theorem ubC_congr (n : Nat) (A B : Nat → Nat) (h : ∀ j, j < n → A j = B j) : ubC n A = ubC n B := by
  unfold ubC
  congr 1
  refine List.map_congr_left (fun i hi => ?_)
  rw [h i (List.mem_range.1 hi)]
theorem ubC_set (n : Nat) (A B : Nat → Nat) (k v : Nat) (hB : ∀ j, j < n → B j = if j = k then v else A j) : (ubC n A).setIfInBounds k (.int .u8 ((v : Nat) : Int)) = ubC n B := by
  refine Array.ext (by simp [ubC]) (fun i h1 h2 => ?_)
  have hi : i < n := by simpa [ubC] using h2
  rw [Array.getElem_setIfInBounds (by simpa [ubC] using hi)]
  simp only [ubC, List.getElem_toArray, List.getElem_map, List.getElem_range]
  rw [hB i hi]
  by_cases e : k = i
  · rw [if_pos e, if_pos e.symm]
  · rw [if_neg e, if_neg (fun h => e h.symm)]
theorem made_ubC (n : Nat) : madeCells #[.int .u8 0] n = ubC n fun _ => 0 := by
  refine Array.ext (by simp [madeCells, ubC]) (fun i h1 h2 => ?_)
  simp [madeCells, ubC, Nat.mod_one]
theorem infoB : (Tryd.prog.info? 5).map (fun i => (i.zero, i.size, i.bytes)) = some (some (.int .u8 0), 1, 1) := by kernel_rfl
theorem info_parts {t : TypeId} {v : Value} {m n : Nat} (h : (Tryd.prog.info? t).map (fun i => (i.zero, i.size, i.bytes)) = some (some v, m, n)) : ∃ i, Tryd.prog.info? t = some i ∧ i.zero = some v ∧ i.size = m ∧ i.bytes = n := by
  cases hi : Tryd.prog.info? t with
  | none => rw [hi] at h; cases h
  | some i =>
    rw [hi] at h
    simp at h
    exact ⟨i, rfl, h.1, h.2.1, h.2.2⟩
theorem run_mkB (W : World) (n : Nat) (hn : n ≤ 1073741824) : (Instr.makeSlice 27 (.int .i64 (n : Int)) (.int .i64 (n : Int))).run Tryd.prog W = .ok (.slice (some ⟨W.heap.size, 0, none⟩) n n) (W.alloc (.cells (ubC n fun _ => 0) 5)) := by
  obtain ⟨i0, hi, hz0, hz1, hz2⟩ := info_parts infoB
  have h := run_make (P := Tryd.prog) W 27 5 i0 (.int .u8 0) Tryd.underlying27 hi hz0 .i64 .i64 (n : Int) (n : Int) (by omega) (by omega) (by rw [hz2]; omega) (by omega)
  rw [hz1, Nat.mul_one, Int.toNat_natCast, show Value.cells (.int .u8 0) = #[.int .u8 0] from rfl, made_ubC] at h
  exact h

/-- What is put behind: m more bytes behind the first one. -/
def pcN (m j : Nat) : Nat := (if j = 0 then 1 else 0) + (if j = m then 128 else 0)
theorem pcN_lt (m j : Nat) : pcN m j < 256 := by unfold pcN; split <;> split <;> omega
theorem pcN_at (m j : Nat) : pcN m j = if j = m then pcN m m else if j = 0 then 1 else 0 := by
  by_cases e : j = m
  · subst e; rw [if_pos rfl]
  · rw [if_neg e]; unfold pcN; rw [if_neg e, Nat.add_zero]
def pcL (m : Nat) : List UInt8 := (List.range (m + 1)).map fun j => UInt8.ofNat (pcN m j)
def pmN (s : ByteArray) : Nat := 135 - s.size % 136
def padS (s : ByteArray) : ByteArray := s ++ ⟨(pcL (pmN s)).toArray⟩

theorem conv_backT {W : World} {g m cap : Nat} {t : TypeId} {A : Nat → Nat} (hA : ∀ j, A j < 256) (h : Has W g t (ubC m A)) : (convert 27 9 (.slice (some ⟨g, 0, none⟩) m cap)).run Tryd.prog W = .ok (.string ⟨((List.range m).map fun j => UInt8.ofNat (A j)).toArray⟩) W := by
  have hl : ((List.range m).map fun j => UInt8.ofNat (A j)).length = m := by simp
  have h2 := run_convert_bytes_back (P := Tryd.prog) W 27 9 5 ⟨g, 0, none⟩ cap ((List.range m).map fun j => UInt8.ofNat (A j)) Tryd.underlying27 Tryd.underlying5 Tryd.underlying9 (fun j hj => by
    have hj2 : j < m := by simpa using hj
    have hadd : (⟨g, 0, none⟩ : Addr).add j = ⟨g, j, none⟩ := by unfold Addr.add; split <;> simp_all
    rw [hadd, h.cell j _ (ubC_get m A j hj2)]
    congr 2
    simp only [List.getElem_map, List.getElem_range]
    rw [UInt8.toNat_ofNat', Nat.mod_eq_of_lt (show A j < 2 ^ 8 from hA j)])
  rw [hl] at h2
  exact h2

theorem conv_back {W : World} {g m cap : Nat} {A : Nat → Nat} (hA : ∀ j, A j < 256) (h : Has W g 5 (ubC m A)) : (convert 27 9 (.slice (some ⟨g, 0, none⟩) m cap)).run Tryd.prog W = .ok (.string ⟨((List.range m).map fun j => UInt8.ofNat (A j)).toArray⟩) W := conv_backT hA h

set_option maxRecDepth 100000 in
set_option maxHeartbeats 4000000 in
theorem pad_ret (s : ByteArray) (hs : s.size ≤ 1073741824) : Ret Tryd.prog 10 #[.string s] (.string (padS s)) := by
  intro w
  have hr : s.size % 136 < 136 := Nat.mod_lt _ (by omega)
  have e1 : ((s.size : Nat) : Int).tmod 136 = ((s.size % 136 : Nat) : Int) := by rw [Int.tmod_eq_emod_of_nonneg (by omega)]; omega
  have e2 : (136 : Int) - ((s.size % 136 : Nat) : Int) = ((pmN s + 1 : Nat) : Int) := by unfold pmN; omega
  have hm : pmN s < 136 := by unfold pmN; omega
  have hmk := run_mkB w (pmN s + 1) (by omega)
  have LM := Has.new w 5 (ubC (pmN s + 1) fun _ => 0)
  have Q := (Below.refl w.heap.size w).alloc (Nat.le_refl _) (.cells (ubC (pmN s + 1) fun _ => 0) 5)
  obtain ⟨W1, hW1⟩ : ∃ W1, w.alloc (.cells (ubC (pmN s + 1) fun _ => 0) 5) = W1 := ⟨_, rfl⟩
  rw [hW1] at hmk LM Q
  clear hW1
  have HP : Hid (padS s = s ++ ⟨(pcL (pmN s)).toArray⟩) := Lib.hid rfl
  have hz0 := LM.cell 0 _ (ubC_get _ _ 0 (by omega))
  have hf0 := LM.frozen 0
  have L1 := LM.set 0 (.int .u8 ((1 : Nat) : Int))
  have hsl : ((s.size : Nat) : Int) ≤ 1073741824 := by omega
  generalize pmN s = m at *
  rw [ubC_set (m + 1) _ (fun j => if j = 0 then 1 else 0) 0 1 (fun j _ => rfl)] at L1
  have hv0 : (if m = 0 then 1 else 0) ≤ 1 := by split <;> omega
  have hpm : pcN m m = (if m = 0 then 1 else 0) + 128 := by unfold pcN; rw [if_pos rfl]
  have hcm := L1.cell m _ (ubC_get _ _ m (by omega))
  have hL := L1.set m (.int .u8 ((pcN m m : Nat) : Int))
  rw [ubC_set (m + 1) _ (pcN m) m (pcN m m) (fun j _ => pcN_at m j), hpm] at hL
  generalize (if m = 0 then 1 else 0 : Nat) = v0 at *
  have hcv := conv_back (cap := m + 1) (pcN_lt m) hL
  have hfm := L1.frozen m
  have HQ := Lib.hid ((Q.setCell (p := ⟨w.heap.size, 0, none⟩) (Nat.le_refl _) (.int .u8 1)).setCell (p := ⟨w.heap.size, m, none⟩) (Nat.le_refl _) (.int .u8 ((v0 + 128 : Nat) : Int)))
  have hmI : (m : Int) < 136 := by omega
  have hvI : (v0 : Int) ≤ 1 := by omega
  have e3 : (136 : Int) - ((s.size % 136 : Nat) : Int) = (m : Int) + 1 := by omega
  rw [show ((m + 1 : Nat) : Int) = (m : Int) + 1 from rfl] at hmk
  simp only [Int.natCast_add, Int.natCast_one, Int.cast_ofNat_Int] at hcv HQ hz0 hcm hf0 hfm
  change (convert _ _ (.slice _ (m + 1) (m + 1))).run _ _ = .ok (.string ⟨(pcL m).toArray⟩) _ at hcv
  have hpl : ¬ 9223372036854775807 < s.size + (pcL m).length := by simp [pcL]; omega
  clear LM Q L1 hL hs e2 hm hpm hv0
  generalize ((s.size % 136 : Nat) : Int) = r at *
  generalize pcL m = pl at *
  go_enter Tryd.func10, Tryd.ntmps10
  go_wp2
  go_ret
  rw [HP.out]
  exact ⟨rfl, HQ.out⟩
end Go.Proofs.YtobdjakflknlcaaDoor
