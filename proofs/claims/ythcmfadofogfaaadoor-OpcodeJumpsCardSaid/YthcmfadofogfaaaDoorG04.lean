/- Part. -/
import Derived.Test.YthcmfadofogfaaaDoorG03
import Derived.Maps.Own
import Derived.Test.YthcmfadofogfaaaDoorProg
import Derived.Maps.OwnSet
import Derived.Maps.Range
import Derived.Maps.RangeWalk
import Derived.Test.YthcmfadofogfaaaDoorG01
set_option maxRecDepth 100000
set_option maxHeartbeats 16000000
namespace Go.Proofs.YthcmfadofogfaaaDoor
section
open Go Go.RowKit Go.Shelf
attribute [local go_sem] Oper.semAt_some Grows wide_fn
def bd (l : List UInt8) (j : Nat) : Int := if j < l.length then ((l.reverse.getD j 0).toNat : Int) else 0
theorem bd_range (l : List UInt8) (j : Nat) : 0 ≤ bd l j ∧ bd l j < 256 := by
 unfold bd
 split
 ·have := (l.reverse.getD j 0).toNat_lt; constructor <;> omega
 ·constructor <;> omega
theorem bd_val (l : List UInt8) : valI (bd l) l.length = (octVal 0 l : Int) := by
 induction l with
 | nil => rfl
 | cons c r ih =>
  have e : valI (bd (c :: r)) r.length = valI (bd r) r.length := valI_congr _ _ _ (fun j hj => by
   unfold bd
   rw [if_pos (by simp; omega), if_pos hj]
   congr 2
   simp only [List.reverse_cons]
   rw [List.getD_eq_getElem?_getD, List.getD_eq_getElem?_getD, List.getElem?_append_left (by simpa using hj)])
  rw [List.length_cons, valI, e, ih]
  have e2 : bd (c :: r) r.length = (c.toNat : Int) := by
   unfold bd
   rw [if_pos (by simp)]
   simp only [List.reverse_cons]
   rw [List.getD_eq_getElem?_getD, List.getElem?_append_right (by simp)]
   simp
  rw [e2]
  show _ = ((octVal (0 * 256 + c.toNat) r : Nat) : Int)
  rw [octVal_from r (0 * 256 + c.toNat), Nat.zero_mul, Nat.zero_add, Int.natCast_add, Int.natCast_mul, Int.natCast_pow, show ((256 : Nat) : Int) = 256 from rfl]
  omega
theorem valI_more (d : Nat → Int) (n : Nat) (hz : ∀ j, n ≤ j → d j = 0) : ∀ m, n ≤ m → valI d m = valI d n
 | 0, h => by
  obtain rfl : n = 0 := by omega
  rfl
 | m + 1, h => by
  by_cases e : n = m + 1
  ·rw [e]
  ·rw [valI, hz m (by omega), valI_more d n hz m (by omega)]
   omega
theorem bd_last (l : List UInt8) : (valI (bd (l.drop (l.length - 32))) 32).toNat = fromB l := by
 have h1 := bd_val (l.drop (l.length - 32))
 have h2 := valI_more (bd (l.drop (l.length - 32))) (l.drop (l.length - 32)).length (fun j hj => if_neg (by omega)) 32 (by rw [List.length_drop]; omega)
 rw [h2, h1]
 rfl
theorem bd_at (s : ByteArray) (k i : Nat) (hk : k < 32) (hi : i + k + 1 = s.size) : bd (s.data.toList.drop (s.data.toList.length - 32)) k = ((s[i]'(by omega)).toNat : Int) := by
 have hl : s.data.toList.length = s.size := by simp
 unfold bd
 rw [if_pos (by rw [List.length_drop]; omega)]
 congr 2
 rw [List.getD_eq_getElem?_getD, List.getElem?_reverse (by rw [List.length_drop]; omega), List.length_drop, List.getElem?_drop, hl, show s.size - 32 + (s.size - (s.size - 32) - 1 - k) = i by omega, List.getElem?_eq_getElem (by omega)]
 rfl
theorem row_form {w : World} {base : Nat} {e : TypeId} {size : Nat} {v : Value} {n : Nat} {xs : List Value} (h : w.ownsRow base e size v n xs) : ∃ o cap, v = .slice o n cap := by
 rcases h.2 with ⟨rfl, rfl⟩ | ⟨g, cap, cur, rfl, _⟩
 ·exact ⟨none, 0, rfl⟩
 ·exact ⟨_, _, rfl⟩
theorem fromDigits_nil (d : Nat → Int) (hz : ∀ j, 0 ≤ j → d j = 0) (c : Nat) (w : World) :
  Calls Tryd.prog 46 #[.slice none 0 c] w fun e w' => e = .returned (wv (valI d 32).toNat) ∧ Below w.heap.size w w' := by
 have e0 : (valI d 32).toNat = 0 := by
  rw [valI_congr d (fun _ => 0) 32 (fun j _ => hz j (Nat.zero_le j)), valI_zero]; rfl
 rw [e0, show wv 0 = .agg #[.int .u64 0, .int .u64 0, .int .u64 0, .int .u64 0] from wv_of ⟨by decide, by decide, by decide, by decide⟩]
 have A1 := (Arr4.mk0' w 37).alloc (.cells #[.int .u64 0, .int .u64 0, .int .u64 0, .int .u64 0] 37)
 have A2 := Arr4.mk0' (w.alloc (.cells #[.int .u64 0, .int .u64 0, .int .u64 0, .int .u64 0] 37)) 37
 have B0 := ((Below.refl _ w).alloc (Nat.le_refl _) (.cells #[.int .u64 0, .int .u64 0, .int .u64 0, .int .u64 0] 37)).alloc (by simp) (.cells #[.int .u64 0, .int .u64 0, .int .u64 0, .int .u64 0] 37)
 rw [World.size_alloc] at A2
 go_enter Tryd.func46, Tryd.ntmps46
 go_wp2
 obtain ⟨W0, hW0⟩ : ∃ W0, (w.alloc (.cells #[.int .u64 0, .int .u64 0, .int .u64 0, .int .u64 0] 37)).alloc (.cells #[.int .u64 0, .int .u64 0, .int .u64 0, .int .u64 0] 37) = W0 := ⟨_, rfl⟩
 rw [hW0] at A1 A2 B0 ⊢
 clear hW0 e0
 go_loopw [4] (fun i wr => i = .int .i64 (-1) ∧ Arr4 wr w.heap.size 37 (fun _ => 0) ∧ Arr4 wr (w.heap.size + 1) 37 (fun _ => 0) ∧ Below w.heap.size w wr) (fun i _ => 0)
 case atStart => exact ⟨rfl, A1, A2, B0⟩
 case round =>
  obtain ⟨rfl, a1, a2, hB⟩ := hrel
  clear A1 A2 B0
  have c0 := a2.cell (j := 0) (by omega)
  have c1 := a2.cell (j := 1) (by omega)
  have c2 := a2.cell (j := 2) (by omega)
  have c3 := a2.cell (j := 3) (by omega)
  have f0 := a1.frozen 0
  have f1 := a1.frozen 1
  have f2 := a1.frozen 2
  have f3 := a1.frozen 3
  have d0 := a1.cell (j := 0) (by omega)
  have d1 := a1.cell (j := 1) (by omega)
  have d2 := a1.cell (j := 2) (by omega)
  have d3 := a1.cell (j := 3) (by omega)
  have HA1 := Lib.hid a1
  have HB := Lib.hid hB
  clear a1 a2 hB
  go_wp2
  refine bodyPost_ret (results_word rfl rfl (HA1.out.store (fun _ => 0))) rfl ⟨rfl, ?_⟩
  exact (((HB.out.setCell (p := ⟨w.heap.size, 0, none⟩) (by simp) _).setCell (p := ⟨w.heap.size, 1, none⟩) (by simp) _).setCell (p := ⟨w.heap.size, 2, none⟩) (by simp) _).setCell (p := ⟨w.heap.size, 3, none⟩) (by simp) _
theorem refFromBytes_ret (s : ByteArray) (hs : s.size ≤ 140737488355328) : Ret Tryd.prog 23 #[.string s] (wv (fromB s.data.toList)) := by
 intro w
 have hl : s.data.toList.length = s.size := by simp
 have HL := Lib.hid (bd_last s.data.toList)
 have HAT := Lib.hid (fun k i (hk : k < 32) (hi : i + k + 1 = s.size) => bd_at s k i hk hi)
 have HBR := Lib.hid (bd_range (s.data.toList.drop (s.data.toList.length - 32)))
 have HBZ : Hid (∀ j, min s.size 32 ≤ j → bd (s.data.toList.drop (s.data.toList.length - 32)) j = 0) := fun j hj => if_neg (by rw [List.length_drop]; omega)
 generalize bd (s.data.toList.drop (s.data.toList.length - 32)) = d at *
 generalize fromB s.data.toList = N at *
 clear hl
 have A0 := Arr4.mk0' w 37
 have B0 := (Below.refl _ w).alloc (Nat.le_refl _) (.cells #[.int .u64 0, .int .u64 0, .int .u64 0, .int .u64 0] 37)
 have s0 : w.heap.size + 1 ≤ (w.alloc (.cells #[.int .u64 0, .int .u64 0, .int .u64 0, .int .u64 0] 37)).heap.size := by simp
 have R0 := World.ownsRow_nil (w.alloc (.cells #[.int .u64 0, .int .u64 0, .int .u64 0, .int .u64 0] 37)) (w.heap.size + 1) 3 1
 have hsI : (s.size : Int) ≤ 140737488355328 := by omega
 have hsI0 : (0 : Int) ≤ (s.size : Int) := by omega
 go_enter Tryd.func23, Tryd.ntmps23
 go_wp2
 obtain ⟨W0, hW0⟩ : ∃ W0, w.alloc (.cells #[.int .u64 0, .int .u64 0, .int .u64 0, .int .u64 0] 37) = W0 := ⟨_, rfl⟩
 rw [hW0] at A0 B0 s0 R0 ⊢
 clear hW0
 go_loopw [3, 4] (fun t i wr => ∃ (z : Int) (k : Nat), i = .int .i64 z ∧ k ≤ 32 ∧ k ≤ s.size ∧ z = (s.size : Int) - 1 - (k : Int) ∧ wr.ownsRow (w.heap.size + 1) 3 1 t k ((List.range k).map fun j => Value.int .i64 (d j)) ∧ Arr4 wr w.heap.size 37 (fun _ => 0) ∧ Below w.heap.size w wr ∧ w.heap.size + 1 ≤ wr.heap.size) (fun _ i _ => (intOf i + 1).toNat)
 case atStart => exact ⟨_, 0, rfl, by omega, by omega, by simp, R0, A0, B0, s0⟩
 case round =>
  obtain ⟨z, k, rfl, hk, hks, hz, hown, aa, hB, hsz⟩ := hrel
  clear R0 A0 B0 s0
  obtain ⟨o, cap, rfl⟩ := row_form hown
  by_cases hlt : k < s.size ∧ k < 32
  ·obtain ⟨hlt1, hlt2⟩ := hlt
   obtain ⟨i, hi⟩ : ∃ i : Nat, z = i := ⟨s.size - 1 - k, by omega⟩
   subst hi
   have hik : i + k + 1 = s.size := by omega
   have hi0 : (0 : Int) ≤ (i : Int) := by omega
   have his : i < s.size := by omega
   have hiI : (i : Int) < (s.size : Int) := by omega
   have hkI : (k : Int) < 32 := by omega
   have hk0 : (0 : Int) ≤ (k : Int) := by omega
   have hat : d k = ((s[i]'his).toNat : Int) := HAT.out k i hlt2 hik
   have hb := s[i].toNat_lt
   have b0 : (0 : Int) ≤ (s[i].toNat : Int) := by omega
   have b1 : (s[i].toNat : Int) < 256 := by omega
   have HD := Lib.hid hat
   have HK := Lib.hid (And.intro hlt1 hlt2)
   have HIK := Lib.hid hik
   have HA := Lib.hid aa
   have HO := Lib.hid hown
   have HB := Lib.hid hB
   have HZ := Lib.hid hsz
   obtain ⟨i0, hi, hz0, hz1, hz2⟩ := info_parts infoI
   clear hk hks hz hlt1 hlt2 hik hown aa hB hsz hb hat
   go_wp2_with (at_builtin; refine wpList_append_own _ rfl _ _ 32 rfl (w.heap.size + 1) 3 i0 (.int .i64 0) 1 8 Tryd.underlying32 hi hz0 hz1 hz2 rfl (by decide) _ _ _ rfl (HO.out.alloc _) ⟨wr.heap.size, 0, none⟩ 1 1 [.int .i64 (s[i].toNat : Int)] rfl rfl (cell_one _ _ _) (by simp [Value.oneCell']) (by unfold maxLen; have := HK.out; omega) (by have := HK.out; omega) (by have := HZ.out; simp; omega) ?_; intro v' w3 hown' hgrow hnil)
   clear hi hz0 hz1 hz2
   go_wp2
   go_roundw
   case rel =>
    have hxs3 := hgrow.size
    have hzz := HZ.out
    have hltA := HA.out.lt
    refine ⟨(i : Int) - 1, k + 1, by simp, by have := HK.out; omega, by have := HK.out; omega, by have := HIK.out; omega, ?_, ?_, ?_, by simp at hxs3; omega⟩
    ·rw [List.range_succ, List.map_append, List.map_cons, List.map_nil, HD.out]; exact hown'
    ·exact (HA.out.alloc _).kept hgrow (fun e => by have := (HO.out.alloc (.cells #[.int .i64 (s[i].toNat : Int)] 3)).lt _ e.symm; omega)
    ·exact (HB.out.alloc (by omega) _).grown hgrow (by simp; omega) (fun j e => by have := (HO.out.alloc (.cells #[.int .i64 (s[i].toNat : Int)] 3)).lt j e; omega)
   case measure => first | (simp [intOf]; done) | (simp [intOf]; omega)
  ·have hm : k = min s.size 32 := by omega
   have DD : Calls Tryd.prog 46 #[.slice o k cap] wr fun e w' => e = .returned (wv N) ∧ Below wr.heap.size wr w' := by
    rw [← HL.out]
    rcases hown.2 with ⟨h1, h2⟩ | ⟨g, cap', cur, h1, hb, hg, _⟩
    ·cases h1
     exact fromDigits_nil d (fun j _ => HBZ.out j (by omega)) 0 wr
    ·cases h1
     have hx := IntsAt.of_row (d := d) hown (fun j hj => by simp [hj])
     exact fromDigits_any d HBR.out k g cap (by omega) (fun j hj => HBZ.out j (by omega)) wr hx.2
   have HA := Lib.hid aa
   have HB := Lib.hid hB
   have HDD := Lib.hid DD
   have hk0 : (0 : Int) ≤ (k : Int) := by omega
   unfold wv at HDD
   by_cases h32 : k = 32
   ·subst h32
    by_cases hz1 : 0 ≤ z
    ·clear hk hks hz hown aa hB hsz hlt hm DD
     go_wp2_with fail
     refine HDD.out.mono ?_
     rintro e w4 ⟨rfl, q⟩
     have a3 := HA.out.later' q
     have HB := Lib.hid (HB.out.trans (q.mono HB.out.size))
     clear q HDD HA
     have f0 := a3.frozen 0
     have f1 := a3.frozen 1
     have f2 := a3.frozen 2
     have f3 := a3.frozen 3
     have d0 := a3.cell (j := 0) (by omega)
     have d1 := a3.cell (j := 1) (by omega)
     have d2 := a3.cell (j := 2) (by omega)
     have d3 := a3.cell (j := 3) (by omega)
     have HA := Lib.hid a3
     clear a3
     go_wp2
     refine bodyPost_ret (results_word rfl rfl (HA.out.store _)) rfl ⟨rfl, ?_⟩
     exact (((HB.out.setCell (p := ⟨w.heap.size, 0, none⟩) (by simp) _).setCell (p := ⟨w.heap.size, 1, none⟩) (by simp) _).setCell (p := ⟨w.heap.size, 2, none⟩) (by simp) _).setCell (p := ⟨w.heap.size, 3, none⟩) (by simp) _
    ·clear hk hks hz hown aa hB hsz hlt hm DD
     go_wp2_with fail
     refine HDD.out.mono ?_
     rintro e w4 ⟨rfl, q⟩
     have a3 := HA.out.later' q
     have HB := Lib.hid (HB.out.trans (q.mono HB.out.size))
     clear q HDD HA
     have f0 := a3.frozen 0
     have f1 := a3.frozen 1
     have f2 := a3.frozen 2
     have f3 := a3.frozen 3
     have d0 := a3.cell (j := 0) (by omega)
     have d1 := a3.cell (j := 1) (by omega)
     have d2 := a3.cell (j := 2) (by omega)
     have d3 := a3.cell (j := 3) (by omega)
     have HA := Lib.hid a3
     clear a3
     go_wp2
     refine bodyPost_ret (results_word rfl rfl (HA.out.store _)) rfl ⟨rfl, ?_⟩
     exact (((HB.out.setCell (p := ⟨w.heap.size, 0, none⟩) (by simp) _).setCell (p := ⟨w.heap.size, 1, none⟩) (by simp) _).setCell (p := ⟨w.heap.size, 2, none⟩) (by simp) _).setCell (p := ⟨w.heap.size, 3, none⟩) (by simp) _
   ·obtain rfl : z = -1 := by omega
    clear hk hks hz hown aa hB hsz hlt hm DD h32
    go_wp2_with fail
    refine HDD.out.mono ?_
    rintro e w4 ⟨rfl, q⟩
    have a3 := HA.out.later' q
    have HB := Lib.hid (HB.out.trans (q.mono HB.out.size))
    clear q HDD HA
    have f0 := a3.frozen 0
    have f1 := a3.frozen 1
    have f2 := a3.frozen 2
    have f3 := a3.frozen 3
    have d0 := a3.cell (j := 0) (by omega)
    have d1 := a3.cell (j := 1) (by omega)
    have d2 := a3.cell (j := 2) (by omega)
    have d3 := a3.cell (j := 3) (by omega)
    have HA := Lib.hid a3
    clear a3
    go_wp2
    refine bodyPost_ret (results_word rfl rfl (HA.out.store _)) rfl ⟨rfl, ?_⟩
    exact (((HB.out.setCell (p := ⟨w.heap.size, 0, none⟩) (by simp) _).setCell (p := ⟨w.heap.size, 1, none⟩) (by simp) _).setCell (p := ⟨w.heap.size, 2, none⟩) (by simp) _).setCell (p := ⟨w.heap.size, 3, none⟩) (by simp) _
end
section
open Go
abbrev Inf := List UInt8 × Nat × Nat × Nat
def opRow0 : List (Nat × Inf) := [(0, [83, 84, 79, 80], 0, 0, 0),
 (1, [65, 68, 68], 2, 1, 3),
 (2, [77, 85, 76], 2, 1, 5),
 (3, [83, 85, 66], 2, 1, 3),
 (4, [68, 73, 86], 2, 1, 5),
 (5, [83, 68, 73, 86], 2, 1, 5),
 (6, [77, 79, 68], 2, 1, 5),
 (7, [83, 77, 79, 68], 2, 1, 5),
 (8, [65, 68, 68, 77, 79, 68], 3, 1, 8),
 (9, [77, 85, 76, 77, 79, 68], 3, 1, 8),
 (10, [69, 88, 80], 2, 1, 10),
 (11, [83, 73, 71, 78, 69, 88, 84, 69, 78, 68], 2, 1, 5)]
def opRow1 : List (Nat × Inf) := [(16, [76, 84], 2, 1, 3),
 (17, [71, 84], 2, 1, 3),
 (18, [83, 76, 84], 2, 1, 3),
 (19, [83, 71, 84], 2, 1, 3),
 (20, [69, 81], 2, 1, 3),
 (21, [73, 83, 90, 69, 82, 79], 1, 1, 3),
 (22, [65, 78, 68], 2, 1, 3),
 (23, [79, 82], 2, 1, 3),
 (24, [88, 79, 82], 2, 1, 3),
 (25, [78, 79, 84], 1, 1, 3),
 (26, [66, 89, 84, 69], 2, 1, 3),
 (27, [83, 72, 76], 2, 1, 3),
 (28, [83, 72, 82], 2, 1, 3),
 (29, [83, 65, 82], 2, 1, 3)]
def opRow2 : List (Nat × Inf) := [(32, [75, 69, 67, 67, 65, 75, 50, 53, 54], 2, 1, 30)]
def opRow3 : List (Nat × Inf) := [(48, [65, 68, 68, 82, 69, 83, 83], 0, 1, 2),
 (49, [66, 65, 76, 65, 78, 67, 69], 1, 1, 0),
 (50, [79, 82, 73, 71, 73, 78], 0, 1, 2),
 (51, [67, 65, 76, 76, 69, 82], 0, 1, 2),
 (52, [67, 65, 76, 76, 86, 65, 76, 85, 69], 0, 1, 2),
 (53, [67, 65, 76, 76, 68, 65, 84, 65, 76, 79, 65, 68], 1, 1, 3),
 (54, [67, 65, 76, 76, 68, 65, 84, 65, 83, 73, 90, 69], 0, 1, 2),
 (55, [67, 65, 76, 76, 68, 65, 84, 65, 67, 79, 80, 89], 3, 0, 3),
 (56, [67, 79, 68, 69, 83, 73, 90, 69], 0, 1, 2),
 (57, [67, 79, 68, 69, 67, 79, 80, 89], 3, 0, 3),
 (58, [71, 65, 83, 80, 82, 73, 67, 69], 0, 1, 2),
 (59, [69, 88, 84, 67, 79, 68, 69, 83, 73, 90, 69], 1, 1, 0),
 (60, [69, 88, 84, 67, 79, 68, 69, 67, 79, 80, 89], 4, 0, 0),
 (61, [82, 69, 84, 85, 82, 78, 68, 65, 84, 65, 83, 73, 90, 69], 0, 1, 2),
 (62, [82, 69, 84, 85, 82, 78, 68, 65, 84, 65, 67, 79, 80, 89], 3, 0, 3),
 (63, [69, 88, 84, 67, 79, 68, 69, 72, 65, 83, 72], 1, 1, 0)]
def opRow4 : List (Nat × Inf) := [(64, [66, 76, 79, 67, 75, 72, 65, 83, 72], 1, 1, 20),
 (65, [67, 79, 73, 78, 66, 65, 83, 69], 0, 1, 2),
 (66, [84, 73, 77, 69, 83, 84, 65, 77, 80], 0, 1, 2),
 (67, [78, 85, 77, 66, 69, 82], 0, 1, 2),
 (68, [80, 82, 69, 86, 82, 65, 78, 68, 65, 79], 0, 1, 2),
 (69, [71, 65, 83, 76, 73, 77, 73, 84], 0, 1, 2),
 (70, [67, 72, 65, 73, 78, 73, 68], 0, 1, 2),
 (71, [83, 69, 76, 70, 66, 65, 76, 65, 78, 67, 69], 0, 1, 5),
 (72, [66, 65, 83, 69, 70, 69, 69], 0, 1, 2)]
def opRow5 : List (Nat × Inf) := [(80, [80, 79, 80], 1, 0, 2),
 (81, [77, 76, 79, 65, 68], 1, 1, 3),
 (82, [77, 83, 84, 79, 82, 69], 2, 0, 3),
 (83, [77, 83, 84, 79, 82, 69, 56], 2, 0, 3),
 (84, [83, 76, 79, 65, 68], 1, 1, 0),
 (85, [83, 83, 84, 79, 82, 69], 2, 0, 0),
 (86, [74, 85, 77, 80], 1, 0, 8),
 (87, [74, 85, 77, 80, 73], 2, 0, 10),
 (88, [80, 67], 0, 1, 2),
 (89, [77, 83, 73, 90, 69], 0, 1, 2),
 (90, [71, 65, 83], 0, 1, 2),
 (91, [74, 85, 77, 80, 68, 69, 83, 84], 0, 0, 1),
 (95, [80, 85, 83, 72, 48], 0, 1, 2)]
def opRow6 : List (Nat × Inf) := [(96, [80, 85, 83, 72, 49], 0, 1, 3),
 (97, [80, 85, 83, 72, 50], 0, 1, 3),
 (98, [80, 85, 83, 72, 51], 0, 1, 3),
 (99, [80, 85, 83, 72, 52], 0, 1, 3),
 (100, [80, 85, 83, 72, 53], 0, 1, 3),
 (101, [80, 85, 83, 72, 54], 0, 1, 3),
 (102, [80, 85, 83, 72, 55], 0, 1, 3),
 (103, [80, 85, 83, 72, 56], 0, 1, 3),
 (104, [80, 85, 83, 72, 57], 0, 1, 3),
 (105, [80, 85, 83, 72, 49, 48], 0, 1, 3),
 (106, [80, 85, 83, 72, 49, 49], 0, 1, 3),
 (107, [80, 85, 83, 72, 49, 50], 0, 1, 3),
 (108, [80, 85, 83, 72, 49, 51], 0, 1, 3),
 (109, [80, 85, 83, 72, 49, 52], 0, 1, 3),
 (110, [80, 85, 83, 72, 49, 53], 0, 1, 3),
 (111, [80, 85, 83, 72, 49, 54], 0, 1, 3)]
def opRow7 : List (Nat × Inf) := [(112, [80, 85, 83, 72, 49, 55], 0, 1, 3),
 (113, [80, 85, 83, 72, 49, 56], 0, 1, 3),
 (114, [80, 85, 83, 72, 49, 57], 0, 1, 3),
 (115, [80, 85, 83, 72, 50, 48], 0, 1, 3),
 (116, [80, 85, 83, 72, 50, 49], 0, 1, 3),
 (117, [80, 85, 83, 72, 50, 50], 0, 1, 3),
 (118, [80, 85, 83, 72, 50, 51], 0, 1, 3),
 (119, [80, 85, 83, 72, 50, 52], 0, 1, 3),
 (120, [80, 85, 83, 72, 50, 53], 0, 1, 3),
 (121, [80, 85, 83, 72, 50, 54], 0, 1, 3),
 (122, [80, 85, 83, 72, 50, 55], 0, 1, 3),
 (123, [80, 85, 83, 72, 50, 56], 0, 1, 3),
 (124, [80, 85, 83, 72, 50, 57], 0, 1, 3),
 (125, [80, 85, 83, 72, 51, 48], 0, 1, 3),
 (126, [80, 85, 83, 72, 51, 49], 0, 1, 3),
 (127, [80, 85, 83, 72, 51, 50], 0, 1, 3)]
def opRow8 : List (Nat × Inf) := [(128, [68, 85, 80, 49], 1, 2, 3),
 (129, [68, 85, 80, 50], 2, 3, 3),
 (130, [68, 85, 80, 51], 3, 4, 3),
 (131, [68, 85, 80, 52], 4, 5, 3),
 (132, [68, 85, 80, 53], 5, 6, 3),
 (133, [68, 85, 80, 54], 6, 7, 3),
 (134, [68, 85, 80, 55], 7, 8, 3),
 (135, [68, 85, 80, 56], 8, 9, 3),
 (136, [68, 85, 80, 57], 9, 10, 3),
 (137, [68, 85, 80, 49, 48], 10, 11, 3),
 (138, [68, 85, 80, 49, 49], 11, 12, 3),
 (139, [68, 85, 80, 49, 50], 12, 13, 3),
 (140, [68, 85, 80, 49, 51], 13, 14, 3),
 (141, [68, 85, 80, 49, 52], 14, 15, 3),
 (142, [68, 85, 80, 49, 53], 15, 16, 3),
 (143, [68, 85, 80, 49, 54], 16, 17, 3)]
def opRow9 : List (Nat × Inf) := [(144, [83, 87, 65, 80, 49], 2, 2, 3),
 (145, [83, 87, 65, 80, 50], 3, 3, 3),
 (146, [83, 87, 65, 80, 51], 4, 4, 3),
 (147, [83, 87, 65, 80, 52], 5, 5, 3),
 (148, [83, 87, 65, 80, 53], 6, 6, 3),
 (149, [83, 87, 65, 80, 54], 7, 7, 3),
 (150, [83, 87, 65, 80, 55], 8, 8, 3),
 (151, [83, 87, 65, 80, 56], 9, 9, 3),
 (152, [83, 87, 65, 80, 57], 10, 10, 3),
 (153, [83, 87, 65, 80, 49, 48], 11, 11, 3),
 (154, [83, 87, 65, 80, 49, 49], 12, 12, 3),
 (155, [83, 87, 65, 80, 49, 50], 13, 13, 3),
 (156, [83, 87, 65, 80, 49, 51], 14, 14, 3),
 (157, [83, 87, 65, 80, 49, 52], 15, 15, 3),
 (158, [83, 87, 65, 80, 49, 53], 16, 16, 3),
 (159, [83, 87, 65, 80, 49, 54], 17, 17, 3)]
def opRow10 : List (Nat × Inf) := [(160, [76, 79, 71, 48], 2, 0, 375),
 (161, [76, 79, 71, 49], 3, 0, 750),
 (162, [76, 79, 71, 50], 4, 0, 1125),
 (163, [76, 79, 71, 51], 5, 0, 1500),
 (164, [76, 79, 71, 52], 6, 0, 1875)]
def opRow11 : List (Nat × Inf) := []
def opRow12 : List (Nat × Inf) := []
def opRow13 : List (Nat × Inf) := []
def opRow14 : List (Nat × Inf) := []
def opRow15 : List (Nat × Inf) := [(240, [67, 82, 69, 65, 84, 69], 3, 1, 32000),
 (241, [67, 65, 76, 76], 7, 1, 0),
 (242, [67, 65, 76, 76, 67, 79, 68, 69], 7, 1, 0),
 (243, [82, 69, 84, 85, 82, 78], 2, 0, 0),
 (244, [68, 69, 76, 69, 71, 65, 84, 69, 67, 65, 76, 76], 6, 1, 0),
 (245, [67, 82, 69, 65, 84, 69, 50], 4, 1, 32000),
 (250, [83, 84, 65, 84, 73, 67, 67, 65, 76, 76], 6, 1, 0),
 (253, [82, 69, 86, 69, 82, 84], 2, 0, 0),
 (254, [73, 78, 86, 65, 76, 73, 68], 0, 0, 0),
 (255, [83, 69, 76, 70, 68, 69, 83, 84, 82, 85, 67, 84], 1, 0, 5000)]
def opRow : Nat → List (Nat × Inf)
 | 0 => opRow0
 | 1 => opRow1
 | 2 => opRow2
 | 3 => opRow3
 | 4 => opRow4
 | 5 => opRow5
 | 6 => opRow6
 | 7 => opRow7
 | 8 => opRow8
 | 9 => opRow9
 | 10 => opRow10
 | 11 => opRow11
 | 12 => opRow12
 | 13 => opRow13
 | 14 => opRow14
 | 15 => opRow15
 | _ => []
def findI (l : List (Nat × Inf)) (op : Nat) : Option Inf := (l.find? (fun p => p.1 == op)).map (·.2)
def opI (op : Nat) : Option Inf := findI (opRow (op / 16)) op
def infV (x : Inf) : Value := .agg #[.string ⟨x.1.toArray⟩, .int .i64 (x.2.1 : Nat), .int .i64 (x.2.2.1 : Nat), .int .i64 (x.2.2.2 : Nat)]
def noInf : Inf := ([], 0, 0, 0)
def digU (n : Nat) : UInt8 := if n < 10 then UInt8.ofNat (48 + n) else UInt8.ofNat (87 + n)
def twoL (b : UInt8) : List UInt8 := [digU (b.toNat / 16), digU (b.toNat % 16)]
def hexO (bs : List UInt8) : List UInt8 := 48 :: 120 :: bs.flatMap twoL
def titleL (op : Nat) : List UInt8 := match opI op with | some x => x.1 | none => hexO [UInt8.ofNat op]
def pushN (op : Nat) : Nat := if 96 ≤ op ∧ op ≤ 127 then op - 95 else 0
def byteAt (c : List UInt8) (p : Nat) : Nat := (c.getD p 0).toNat
def nextP (c : List UInt8) (p : Nat) : Nat := p + 1 + pushN (byteAt c p)
def placesF (c : List UInt8) : Nat → Nat → List Nat
 | 0, _ => []
 | f + 1, p => if p < c.length then p :: placesF c f (nextP c p) else []
def placesL (c : List UInt8) : List Nat := placesF c c.length 0
def behindL (c : List UInt8) (p n : Nat) : List UInt8 := (c.drop (p + 1)).take n
def jumpsL (c : List UInt8) : List Nat := (placesL c).filter (fun p => byteAt c p == 91)
def lineL (c : List UInt8) (p : Nat) : List UInt8 :=
 titleL (byteAt c p) ++ (if 0 < pushN (byteAt c p) then 32 :: hexO (behindL c p (pushN (byteAt c p))) else []) ++ [10]
def textL (c : List UInt8) : List UInt8 := (placesL c).flatMap (lineL c)
def opOf (w : List UInt8) : Option Nat := (List.range 256).find? (fun op => titleL op == w)
def digN (u : UInt8) : Option Nat := if 48 ≤ u.toNat ∧ u.toNat ≤ 57 then some (u.toNat - 48) else if 97 ≤ u.toNat ∧ u.toNat ≤ 102 then some (u.toNat - 87) else none
def pairsL : List UInt8 → Option (List UInt8)
 | [] => some []
 | [_] => none
 | a :: b :: r => match digN a, digN b, pairsL r with
  | some h, some l, some t => some (UInt8.ofNat (16 * h + l) :: t)
  | _, _, _ => none
def unhexL (s : List UInt8) (most : Nat) : Option (List UInt8) :=
 if s.take 2 = [48, 120] ∧ (s.drop 2).length % 2 = 0 ∧ (s.drop 2).length ≤ 2 * most then pairsL (s.drop 2) else none
def cutF : List UInt8 → List UInt8
 | [] => []
 | a :: r => if a = 32 then [] else a :: cutF r
def cutM : List UInt8 → Bool
 | [] => false
 | a :: r => if a = 32 then true else cutM r
def cutR : List UInt8 → List UInt8
 | [] => []
 | a :: r => if a = 32 then r else cutR r
def readL (line : List UInt8) (last : Bool) : Sum Nat (List UInt8) :=
 match opOf (cutF line) with
 | none => .inl 42
 | some op =>
  if pushN op = 0 then (if cutM line then .inl 3 else .inr [UInt8.ofNat op])
  else match unhexL (cutR line) (pushN op) with
   | none => .inl 3
   | some t => if t.length < pushN op ∧ last = false then .inl 3 else .inr (UInt8.ofNat op :: t)
def line1 : List UInt8 → List UInt8
 | [] => []
 | a :: r => if a = 10 then [10] else a :: line1 r
def lines2 : List UInt8 → List UInt8
 | [] => []
 | a :: r => if a = 10 then r else lines2 r
def linesF : Nat → List UInt8 → List (List UInt8)
 | 0, _ => []
 | f + 1, s => if s = [] then [] else line1 s :: linesF f (lines2 s)
def linesL (s : List UInt8) : List (List UInt8) := linesF s.length s
def chompL (s : List UInt8) : List UInt8 := if s.getLast? = some 10 then s.dropLast else s
def parseF : List (List UInt8) → Nat → List UInt8 → Sum (Nat × Nat) (List UInt8)
 | [], _, acc => .inr acc
 | l :: r, n, acc => match readL (chompL l) (r == []) with
  | .inl e => .inl (e, n)
  | .inr t => parseF r (n + 1) (acc ++ t)
def parseL (s : List UInt8) : Sum (Nat × Nat) (List UInt8) := parseF (linesL s) 0 []
def parsedV (s : List UInt8) : Value := match parseL s with
 | .inl (e, n) => .tuple #[.string ⟨#[]⟩, .int .i64 (e : Int), .int .i64 (n : Int)]
 | .inr c => .tuple #[.string ⟨c.toArray⟩, .int .i64 0, .int .i64 0]
theorem opOf_title : ∀ op, op < 256 → opOf (titleL op) = some op := by decide +kernel
theorem title_inj {a b : Nat} (ha : a < 256) (hb : b < 256) (h : titleL a = titleL b) : a = b := by
 have h1 := opOf_title a ha
 rw [h, opOf_title b hb] at h1
 exact (Option.some.inj h1).symm
theorem pushN_le (op : Nat) : pushN op ≤ 32 := by unfold pushN; split <;> omega
theorem byteAt_lt (c : List UInt8) (p : Nat) : byteAt c p < 256 := (c.getD p 0).toNat_lt
theorem nextP_gt (c : List UInt8) (p : Nat) : p < nextP c p := by unfold nextP; omega
theorem nextP_le (c : List UInt8) (p : Nat) : nextP c p ≤ p + 33 := by have := pushN_le (byteAt c p); unfold nextP; omega
def itP (c : List UInt8) : Nat → Nat → Nat
 | 0, p => p
 | k + 1, p => itP c k (nextP c p)
theorem itP_succ (c : List UInt8) : ∀ k p, itP c (k + 1) p = nextP c (itP c k p)
 | 0, _ => rfl
 | k + 1, p => itP_succ c k (nextP c p)
theorem placesF_get (c : List UInt8) : ∀ (f p k : Nat), c.length - p ≤ f → k ≤ (placesF c f p).length → ((k < (placesF c f p).length ↔ itP c k p < c.length) ∧ (k < (placesF c f p).length → (placesF c f p)[k]? = some (itP c k p)))
 | 0, p, k, hf, hk => by
  obtain rfl : k = 0 := by simpa [placesF] using hk
  simp [placesF, itP]
  omega
 | f + 1, p, k, hf, hk => by
  unfold placesF at hk ⊢
  by_cases hp : p < c.length
  ·rw [if_pos hp] at hk ⊢
   cases k with
   | zero => simp [itP, hp]
   | succ k =>
    have h1 := nextP_gt c p
    have := placesF_get c f (nextP c p) k (by omega) (by simpa using hk)
    simpa [itP] using this
  ·rw [if_neg hp] at hk ⊢
   obtain rfl : k = 0 := by simpa using hk
   simp [itP, hp]
theorem placesF_len (c : List UInt8) : ∀ (f p : Nat), (placesF c f p).length ≤ f
 | 0, _ => by simp [placesF]
 | f + 1, p => by
  unfold placesF
  split
  ·have := placesF_len c f (nextP c p); simp; omega
  ·simp
def numP (c : List UInt8) : Nat := (placesL c).length
def nthP (c : List UInt8) (k : Nat) : Nat := itP c k 0
theorem numP_le (c : List UInt8) : numP c ≤ c.length := placesF_len c _ _
theorem nthP_zero (c : List UInt8) : nthP c 0 = 0 := rfl
theorem nthP_succ (c : List UInt8) (k : Nat) : nthP c (k + 1) = nextP c (nthP c k) := itP_succ c k 0
theorem nthP_lt (c : List UInt8) {k : Nat} (hk : k ≤ numP c) : k < numP c ↔ nthP c k < c.length := (placesF_get c c.length 0 k (by omega) hk).1
theorem nthP_get (c : List UInt8) {k : Nat} (hk : k < numP c) : (placesL c)[k]? = some (nthP c k) := (placesF_get c c.length 0 k (by omega) (Nat.le_of_lt hk)).2 hk
theorem nthP_lt_len (c : List UInt8) {k : Nat} (hk : k < numP c) : nthP c k < c.length := (nthP_lt c (Nat.le_of_lt hk)).1 hk
theorem nthP_le (c : List UInt8) : ∀ k, k ≤ numP c → nthP c k ≤ c.length + 32
 | 0, _ => by simp [nthP_zero]
 | k + 1, hk => by
  have h1 := nthP_lt_len c hk
  have h2 := nextP_le c (nthP c k)
  rw [nthP_succ]
  omega
theorem placesL_take (c : List UInt8) {k : Nat} (hk : k < numP c) : (placesL c).take (k + 1) = (placesL c).take k ++ [nthP c k] := by
 rw [List.take_add_one, nthP_get c hk]
 rfl
theorem placesL_all (c : List UInt8) : (placesL c).take (numP c) = placesL c := List.take_length
theorem line_cat : ∀ s, line1 s ++ lines2 s = s
 | [] => rfl
 | a :: r => by
  unfold line1 lines2
  split
  ·simp_all
  ·simp [line_cat r]
theorem line1_pos {s : List UInt8} (h : s ≠ []) : 0 < (line1 s).length := by
 cases s with
 | nil => exact absurd rfl h
 | cons a r => unfold line1; split <;> simp
theorem lines2_lt {s : List UInt8} (h : s ≠ []) : (lines2 s).length < s.length := by
 have h1 := congrArg List.length (line_cat s)
 have h2 := line1_pos h
 simp at h1
 omega
def itL : Nat → List UInt8 → List UInt8
 | 0, s => s
 | k + 1, s => itL k (lines2 s)
theorem itL_succ : ∀ k s, itL (k + 1) s = lines2 (itL k s)
 | 0, _ => rfl
 | k + 1, s => itL_succ k (lines2 s)
theorem linesF_get : ∀ (f : Nat) (s : List UInt8) (k : Nat), s.length ≤ f → k ≤ (linesF f s).length → ((k < (linesF f s).length ↔ itL k s ≠ []) ∧ (k < (linesF f s).length → (linesF f s)[k]? = some (line1 (itL k s))))
 | 0, s, k, hf, hk => by
  obtain rfl : k = 0 := by simpa [linesF] using hk
  obtain rfl : s = [] := List.length_eq_zero_iff.1 (by omega)
  simp [linesF, itL]
 | f + 1, s, k, hf, hk => by
  unfold linesF at hk ⊢
  by_cases hs : s = []
  ·rw [if_pos hs] at hk ⊢
   obtain rfl : k = 0 := by simpa using hk
   simp [itL, hs]
  ·rw [if_neg hs] at hk ⊢
   cases k with
   | zero => simp [itL, hs]
   | succ k =>
    have h1 := lines2_lt hs
    have := linesF_get f (lines2 s) k (by omega) (by simpa using hk)
    simpa [itL] using this
theorem linesF_len : ∀ (f : Nat) (s : List UInt8), (linesF f s).length ≤ f
 | 0, _ => by simp [linesF]
 | f + 1, s => by
  unfold linesF
  split
  ·simp
  ·have := linesF_len f (lines2 s); simp; omega
def numL (s : List UInt8) : Nat := (linesL s).length
def nthL (s : List UInt8) (k : Nat) : List UInt8 := line1 (itL k s)
theorem numL_le (s : List UInt8) : numL s ≤ s.length := linesF_len _ _
theorem itL_ne (s : List UInt8) {k : Nat} (hk : k ≤ numL s) : k < numL s ↔ itL k s ≠ [] := (linesF_get s.length s k (Nat.le_refl _) hk).1
theorem nthL_get (s : List UInt8) {k : Nat} (hk : k < numL s) : (linesL s)[k]? = some (nthL s k) := (linesF_get s.length s k (Nat.le_refl _) (Nat.le_of_lt hk)).2 hk
theorem itL_cat (s : List UInt8) (k : Nat) : nthL s k ++ itL (k + 1) s = itL k s := by rw [itL_succ]; exact line_cat _
theorem itL_le (s : List UInt8) : ∀ k, (itL k s).length ≤ s.length
 | 0 => Nat.le_refl _
 | k + 1 => by
  have h1 := congrArg List.length (itL_cat s k)
  have h2 := itL_le s k
  simp at h1
  omega
theorem lines_drop (s : List UInt8) {k : Nat} (hk : k < numL s) : (linesL s).drop k = nthL s k :: (linesL s).drop (k + 1) := by
 rw [List.drop_eq_getElem_cons (by exact hk)]
 have h1 := nthL_get s hk
 rw [List.getElem?_eq_getElem (by exact hk)] at h1
 rw [Option.some.inj h1]
theorem lines_drop_nil (s : List UInt8) {k : Nat} (hk : k ≤ numL s) : ((linesL s).drop k == []) = (itL k s == []) := by
 have h1 := itL_ne s hk
 by_cases h : itL k s = []
 ·have h2 : ¬ k < numL s := fun h3 => (h1.1 h3) h
  have : (linesL s).drop k = [] := List.drop_eq_nil_of_le (by unfold numL at h2; omega)
  simp [h, this]
 ·have h2 := h1.2 h
  rw [lines_drop s h2]
  simp [h]
end
section
open Go Go.RowKit Go.Maps Go.WideMaps Go.ChangeMaps
def RV (v : Value) : Option (DataW Value × List MemPlace) := some (.held v, [])
abbrev tB : TypeId := 5
abbrev tI : TypeId := 49
abbrev tMB : TypeId := 52
abbrev tMS : TypeId := 73
abbrev tSt : TypeId := 9
theorem lawB : Keyed Tryd.prog tB := int_keyed Tryd.underlying5
theorem lawS : Keyed Tryd.prog tSt := string_keyed Tryd.underlying9
def keyB (op : Nat) : Lit := .int .u8 (op : Int)
def keyS (s : List UInt8) : Lit := .string s
theorem keyB_of {op : Nat} (h : op < 256) : keyOf Tryd.prog tB (.int .u8 (op : Int)) = some (keyB op) :=
 keyOf_int_mk Tryd.underlying5 (by simp [Lit.wf, IntKind.min, IntKind.max, IntKind.signed, IntKind.bits]; omega)
theorem keyB_inj {a b : Nat} (h : keyB a = keyB b) : a = b := by
 have : ((a : Int)) = (b : Int) := by simpa [keyB] using h
 omega
theorem keyS_of {s : List UInt8} (h : s.length ≤ maxLen) : keyOf Tryd.prog tSt (.string ⟨s.toArray⟩) = some (keyS s) := by
 have := keyOf_string_mk (P := Tryd.prog) Tryd.underlying9 (s := ⟨s.toArray⟩) (by simpa [ByteArray.size] using h)
 simpa [keyS] using this
theorem keyS_inj {a b : List UInt8} (h : keyS a = keyS b) : a = b := by simpa [keyS] using h
def TellsAt (D : DataW Value) (kl : Lit) : Option Value → Prop
 | none => has D kl = false
 | some v => has D kl = true ∧ ∀ z, D.atKey kl z = .held v
theorem TellsAt.put_same {D : DataW Value} (hD : IsMap D) {kl : Lit} (hk : WideAt.IsKeyLit kl) (v : Value) : TellsAt (D.put kl (.held v)) kl (some v) :=
 ⟨has_put_same hD hk _, fun z => atKey_put_same hD hk _ z⟩
theorem TellsAt.put_other {D : DataW Value} {kl kl' : Lit} (hne : kl' ≠ kl) {x : Option Value} (h : TellsAt D kl' x) (d : DataW Value) : TellsAt (D.put kl d) kl' x := by
 cases x with
 | none => exact (has_put_other hne d).trans h
 | some v => exact ⟨(has_put_other hne d).trans h.1, fun z => (atKey_put_other hne d z).trans (h.2 z)⟩
def MapB (w : World) (B n : Nat) (f : Nat → Option Inf) : Prop :=
 ∃ D, w.ownsMap Tryd.prog tB RV B n D ∧ ∀ op, op < 256 → TellsAt D (keyB op) ((f op).map infV)
def MapS (w : World) (B n : Nat) (f : List UInt8 → Option Nat) : Prop :=
 ∃ D, w.ownsMap Tryd.prog tSt RV B n D ∧ ∀ s, TellsAt D (keyS s) ((f s).map fun (o : Nat) => Value.int .u8 (o : Int))
theorem MapB.made (w : World) : MapB (w.alloc (.map #[] 0)) w.heap.size 0 (fun _ => none) := ⟨_, World.ownsMap_made _ _ _ _, fun _ _ => rfl⟩
theorem MapS.made (w : World) : MapS (w.alloc (.map #[] 0)) w.heap.size 0 (fun _ => none) := ⟨_, World.ownsMap_made _ _ _ _, fun _ => rfl⟩
theorem MapB.mono {w : World} {B n n' : Nat} {f : Nat → Option Inf} (h : MapB w B n f) (hn : n ≤ n') : MapB w B n' f := by obtain ⟨D, h1, h2⟩ := h; exact ⟨D, h1.mono hn, h2⟩
theorem MapB.lt {w : World} {B n : Nat} {f : Nat → Option Inf} (h : MapB w B n f) : B < w.heap.size := by obtain ⟨D, h1, _⟩ := h; exact h1.lt
theorem MapS.lt {w : World} {B n : Nat} {f : List UInt8 → Option Nat} (h : MapS w B n f) : B < w.heap.size := by obtain ⟨D, h1, _⟩ := h; exact h1.lt
theorem MapB.kept {w w' : World} {B n : Nat} {f : Nat → Option Inf} {row : Option Nat} (h : MapB w B n f) (hg : w.grownBy w' row) (hne : some B ≠ row) : MapB w' B n f := by obtain ⟨D, h1, h2⟩ := h; exact ⟨D, h1.kept hg hne, h2⟩
theorem MapB.below {w w' : World} {B n b : Nat} {f : Nat → Option Inf} (h : MapB w B n f) (hx : Below b w w') (hb : B < b) : MapB w' B n f := by
 obtain ⟨D, ⟨es, clock, h1, h3⟩, h2⟩ := h
 exact ⟨D, ⟨es, clock, (hx.block B hb).trans h1, h3⟩, h2⟩
theorem MapS.below {w w' : World} {B n b : Nat} {f : List UInt8 → Option Nat} (h : MapS w B n f) (hx : Below b w w') (hb : B < b) : MapS w' B n f := by
 obtain ⟨D, ⟨es, clock, h1, h3⟩, h2⟩ := h
 exact ⟨D, ⟨es, clock, (hx.block B hb).trans h1, h3⟩, h2⟩
theorem MapB.congr {w : World} {B n : Nat} {f g : Nat → Option Inf} (h : MapB w B n f) (hf : ∀ op, op < 256 → f op = g op) : MapB w B n g := by
 obtain ⟨D, h1, h2⟩ := h
 exact ⟨D, h1, fun op ho => by rw [← hf op ho]; exact h2 op ho⟩
def putMB (f : Nat → Option Inf) (op : Nat) (x : Inf) : Nat → Option Inf := fun o => if o = op then some x else f o
def putS (f : List UInt8 → Option Nat) (s : List UInt8) (x : Nat) : List UInt8 → Option Nat := fun o => if o = s then some x else f o
theorem MapB.put {w' : World} {B n op : Nat} {x : Inf} {f : Nat → Option Inf} {D : DataW Value} (h2 : ∀ o, o < 256 → TellsAt D (keyB o) ((f o).map infV)) (hD : IsMap D)
  (h : w'.ownsMap Tryd.prog tB RV B n (D.put (keyB op) (.held (infV x)))) : MapB w' B n (putMB f op x) :=
 ⟨_, h, fun o ho => by
  by_cases he : o = op
  ·subst he
   simp only [putMB, if_true, Option.map_some]
   exact TellsAt.put_same hD (by simp [keyB, WideAt.IsKeyLit]) _
  ·simp only [putMB, if_neg he]
   exact (h2 o ho).put_other (fun e => he (keyB_inj e)) _⟩
theorem MapS.put {w' : World} {B n x : Nat} {s : List UInt8} {f : List UInt8 → Option Nat} {D : DataW Value} (h2 : ∀ o, TellsAt D (keyS o) ((f o).map fun (o : Nat) => Value.int .u8 (o : Int))) (hD : IsMap D)
  (h : w'.ownsMap Tryd.prog tSt RV B n (D.put (keyS s) (.held (.int .u8 (x : Int))))) : MapS w' B n (putS f s x) :=
 ⟨_, h, fun o => by
  by_cases he : o = s
  ·subst he
   simp only [putS, if_true, Option.map_some]
   exact TellsAt.put_same hD (by simp [keyS, WideAt.IsKeyLit]) _
  ·simp only [putS, if_neg he]
   exact (h2 o).put_other (fun e => he (keyS_inj e)) _⟩
section
variable (w : World) {ops : Array Oper} {rest : List Oper} {o : Oper} {a : Act} {Q : Exit → Act → World → Prop}
theorem wpList_putMB (hg : o.guard = none) (m k v : Operand) (hop : o.op = Op.mapUpdate tMB m k v ∨ o.op = Op.insert tMB m k v) (B n : Nat) (f : Nat → Option Inf) (hm : a.eval m = .map (some B)) (hown : MapB w B n f) (hn : n < 1000)
  (op : Nat) (x : Inf) (hk : a.eval k = .int .u8 (op : Int)) (hop' : op < 256) (hv : a.eval v = infV x)
  (hK : ∀ w', MapB w' B (n + 1) (putMB f op x) → w.grownBy w' (some B) → wpList Tryd.prog ops Q rest (a.put o.dst undef) w') : wpList Tryd.prog ops Q (o :: rest) a w := by
 refine wpList_plain hg fun K' hK' => ?_
 obtain ⟨D, h1, h2⟩ := hown
 obtain ⟨w', hrun, r1, r2⟩ := h1.update lawB Tryd.underlying52 (val := infV x) (d := .held (infV x)) (ps := []) (Nat.lt_of_lt_of_le hn (by decide)) (keyB_of hop') rfl
 unfold Oper.wp
 rcases hop with hop | hop <;>
 ·simp [execOp, hop, hm, hk, hv, hrun, Result.andThen]
  exact hK' _ _ (hK w' (MapB.put h2 h1.isMap r1) r2)
theorem wpList_putS (hg : o.guard = none) (m k v : Operand) (hop : o.op = Op.mapUpdate tMS m k v) (B n : Nat) (f : List UInt8 → Option Nat) (hm : a.eval m = .map (some B)) (hown : MapS w B n f) (hn : n < 1000)
  (s : List UInt8) (x : Nat) (hk : a.eval k = .string ⟨s.toArray⟩) (hs : s.length ≤ 1000) (hv : a.eval v = .int .u8 (x : Int))
  (hK : ∀ w', MapS w' B (n + 1) (putS f s x) → w.grownBy w' (some B) → wpList Tryd.prog ops Q rest (a.put o.dst undef) w') : wpList Tryd.prog ops Q (o :: rest) a w := by
 refine wpList_plain hg fun K' hK' => ?_
 obtain ⟨D, h1, h2⟩ := hown
 obtain ⟨w', hrun, r1, r2⟩ := h1.update lawS Tryd.underlying73 (val := .int .u8 (x : Int)) (d := .held (.int .u8 (x : Int))) (ps := []) (Nat.lt_of_lt_of_le hn (by decide)) (keyS_of (Nat.le_trans hs (by decide))) rfl
 unfold Oper.wp
 simp [execOp, hop, hm, hk, hv, hrun, Result.andThen]
 exact hK' _ _ (hK w' (MapS.put h2 h1.isMap r1) r2)
def lookV (f : Nat → Option Inf) (op : Nat) : Value := .tuple #[infV ((f op).getD noInf), .bool (f op).isSome]
theorem zeroI (w : World) : (zeroValue tI).run Tryd.prog w = .ok (infV noInf) w := by kernel_rfl
theorem zeroB (w : World) : (zeroValue tB).run Tryd.prog w = .ok (.int .u8 0) w := by kernel_rfl
theorem wpList_lookB (hg : o.guard = none) (m k : Operand) (hop : o.op = Op.lookup tMB m k true) (B n : Nat) (f : Nat → Option Inf) (hm : a.eval m = .map (some B)) (hown : MapB w B n f)
  (op : Nat) (hk : a.eval k = .int .u8 (op : Int)) (hop' : op < 256) (hK : wpList Tryd.prog ops Q rest (a.put o.dst (lookV f op)) w) : wpList Tryd.prog ops Q (o :: rest) a w := by
 refine wpList_plain hg fun K' hK' => ?_
 obtain ⟨D, h1, h2⟩ := hown
 obtain ⟨v, ps, hrun, hv⟩ := h1.look_ok lawB Tryd.underlying52 (zeroI w) (zd := .held (infV noInf)) (zp := []) rfl (keyB_of hop')
 have e : Value.tuple #[v, .bool (has D (keyB op))] = lookV f op := by
  have ht := h2 op hop'
  unfold lookV
  cases hf : f op with
  | none =>
   rw [hf] at ht
   have hz : D.atKey (keyB op) (.held (infV noInf)) = .held (infV noInf) := atKey_of_not_has ht _
   rw [hz] at hv
   simp only [RV, Option.some.injEq, Prod.mk.injEq, DataW.held.injEq] at hv
   rw [hv.1]
   simp only [TellsAt, Option.map_none] at ht
   rw [ht]
   rfl
  | some x =>
   rw [hf] at ht
   rw [ht.2] at hv
   simp only [RV, Option.some.injEq, Prod.mk.injEq, DataW.held.injEq] at hv
   rw [hv.1, ht.1]
   rfl
 unfold Oper.wp
 simp [execOp, hop, hm, hk, hrun, Result.andThen]
 rw [e]
 exact hK' _ _ hK
theorem wpList_lookB_nil (hg : o.guard = none) (m k : Operand) (hop : o.op = Op.lookup tMB m k true) (hm : a.eval m = .map none)
  (op : Nat) (hk : a.eval k = .int .u8 (op : Int)) (hop' : op < 256) (hK : wpList Tryd.prog ops Q rest (a.put o.dst (lookV (fun _ => none) op)) w) : wpList Tryd.prog ops Q (o :: rest) a w := by
 refine wpList_plain hg fun K' hK' => ?_
 have hrun := look_nil true lawB Tryd.underlying52 (zeroI w) (keyB_of hop')
 unfold Oper.wp
 simp [execOp, hop, hm, hk, hrun, Result.andThen]
 exact hK' _ _ hK
def lookSV (f : List UInt8 → Option Nat) (s : List UInt8) : Value := .tuple #[.int .u8 (((f s).getD 0 : Nat) : Int), .bool (f s).isSome]
theorem wpList_lookS (hg : o.guard = none) (m k : Operand) (hop : o.op = Op.lookup tMS m k true) (B n : Nat) (f : List UInt8 → Option Nat) (hm : a.eval m = .map (some B)) (hown : MapS w B n f)
  (s : List UInt8) (hk : a.eval k = .string ⟨s.toArray⟩) (hs : s.length ≤ maxLen) (hK : wpList Tryd.prog ops Q rest (a.put o.dst (lookSV f s)) w) : wpList Tryd.prog ops Q (o :: rest) a w := by
 refine wpList_plain hg fun K' hK' => ?_
 obtain ⟨D, h1, h2⟩ := hown
 obtain ⟨v, ps, hrun, hv⟩ := h1.look_ok lawS Tryd.underlying73 (zeroB w) (zd := .held (.int .u8 0)) (zp := []) rfl (keyS_of hs)
 have e : Value.tuple #[v, .bool (has D (keyS s))] = lookSV f s := by
  have ht := h2 s
  unfold lookSV
  cases hf : f s with
  | none =>
   rw [hf] at ht
   have hz : D.atKey (keyS s) (.held (.int .u8 0)) = .held (.int .u8 0) := atKey_of_not_has ht _
   rw [hz] at hv
   simp only [RV, Option.some.injEq, Prod.mk.injEq, DataW.held.injEq] at hv
   rw [hv.1]
   simp only [TellsAt, Option.map_none] at ht
   rw [ht]
   rfl
  | some x =>
   rw [hf] at ht
   rw [ht.2] at hv
   simp only [RV, Option.some.injEq, Prod.mk.injEq, DataW.held.injEq] at hv
   rw [hv.1, ht.1]
   rfl
 unfold Oper.wp
 simp [execOp, hop, hm, hk, hrun, Result.andThen]
 rw [e]
 exact hK' _ _ hK
end
end
end Go.Proofs.YthcmfadofogfaaaDoor
