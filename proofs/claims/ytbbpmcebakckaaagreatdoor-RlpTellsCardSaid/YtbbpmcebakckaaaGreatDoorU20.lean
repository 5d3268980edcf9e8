import Derived.Test.YtbbpmcebakckaaaGreatDoorU19
import Derived.Test.YtbbpmcebakckaaaGreatDoorU08
import Derived.Test.YtbbpmcebakckaaaGreatDoorU18
import Derived.Test.YtbbpmcebakckaaaGreatDoorU03
/- The document's own ints, bytes and texts of words. For every word, and every text that is not beyond the model's reach. -/
namespace Go.Proofs.YtbbpmcebakckaaaGreatDoor
open Go Go.RowKit Go.Shelf
attribute [local go_sem] Oper.semAt_some Grows wide_fn

/-! ### Int -/
/-! ### Bytes -/
def bytV (a n : Nat) : List Value := (List.range n).map fun j => Value.int .u8 (dg a (31 - j) : Int)
theorem bytV_succ (a n : Nat) : bytV a (n + 1) = bytV a n ++ [.int .u8 (dg a (31 - n) : Int)] := by simp [bytV, List.range_succ]
theorem row_ints {w : World} {g n base : Nat} {d : Nat → Int} {e : TypeId} {size : Nat} {v : Value} {k : Nat} {xs : List Value} (h : w.ownsRow base e size v k xs) (_hx : IntsAt w g n d) (hg : g < base) : some g ≠ v.ownBlock := fun e1 => by
  have := h.lt g e1.symm
  omega
theorem bytes_back (a : Nat) : (⟨((byteL a).map UInt8.ofNat).toArray⟩ : ByteArray) = bytesOf a := by
  have h := bytesOf_list a
  cases hb : bytesOf a with
  | mk data =>
    rw [hb] at h
    simp only [] at h
    rw [← h]

set_option maxRecDepth 100000 in
set_option maxHeartbeats 2000000 in
theorem refBytes_ret (a : Nat) : Ret Tryz.prog 38 #[wv a] (.string (bytesOf a)) := by
  intro w
  have B0 := (Below.refl _ w).alloc (Nat.le_refl _) (.cells #[.int .u64 (lim a 0), .int .u64 (lim a 1), .int .u64 (lim a 2), .int .u64 (lim a 3)] 25)
  have s0 : w.heap.size + 1 ≤ (w.alloc (.cells #[.int .u64 (lim a 0), .int .u64 (lim a 1), .int .u64 (lim a 2), .int .u64 (lim a 3)] 25)).heap.size := by simp
  have DA := digits_any a
  unfold wv at DA ⊢
  go_enter Tryz.func38, Tryz.ntmps38
  go_wp2_with fail
  obtain ⟨W0, hW0⟩ : ∃ W0, w.alloc (.cells #[.int .u64 (lim a 0), .int .u64 (lim a 1), .int .u64 (lim a 2), .int .u64 (lim a 3)] 25) = W0 := ⟨_, rfl⟩
  rw [hW0] at B0 s0 ⊢
  clear hW0
  refine (DA _).mono ?_
  rintro e w1 ⟨g, cap, rfl, hg, X1, q⟩
  have B1 := B0.trans (q.mono B0.size)
  have hgl := X1.lt
  have R0 := World.ownsRow_nil w1 w1.heap.size 5 1
  have hs1 : w.heap.size ≤ w1.heap.size := B1.size
  clear q B0 DA s0 hg
  go_wp2
  go_loopw [4, 5] (fun t i wr => ∃ (z : Int) (k : Nat), i = .int .i64 z ∧ k ≤ 32 ∧ z = 31 - (k : Int) ∧ wr.ownsRow w1.heap.size 5 1 t k (bytV a k) ∧ IntsAt wr g 32 (fun j => (dg a j : Int)) ∧ Below w.heap.size w wr ∧ w1.heap.size ≤ wr.heap.size) (fun _ i _ => (intOf i + 1).toNat)
  case atStart => exact ⟨31, 0, rfl, by omega, by omega, R0, X1, B1, Nat.le_refl _⟩
  case round =>
    obtain ⟨z, k, rfl, hk, hz, hown, xx, hB, hsz⟩ := hrel
    clear R0 X1 B1
    by_cases hlt : k < 32
    · obtain ⟨i, hi⟩ : ∃ i : Nat, z = i := ⟨31 - k, by omega⟩
      subst hi
      have hik : i = 31 - k := by omega
      have hi0 : (0 : Int) ≤ (i : Int) := by omega
      have hi9 : (i : Int) < 32 := by omega
      have cd := xx.cell (j := i) (by omega)
      have db := dg_lt a i
      have HV := Lib.hid (bytV_succ a k)
      rw [← hik] at HV
      have HK := Lib.hid hlt
      have HIK := Lib.hid hik
      have HX := Lib.hid xx
      have HO := Lib.hid hown
      have HB := Lib.hid hB
      have HZ := Lib.hid hsz
      have b0 : (0 : Int) ≤ (dg a i : Int) := by omega
      have b1 : (dg a i : Int) < 256 := by omega
      obtain ⟨i0, hi, hz0, hz1, hz2⟩ := info_parts infoB
      clear hk hz hlt hik hown xx hB hsz db
      generalize (dg a i : Int) = b at *
      go_wp2_with (at_builtin; refine wpList_append_own _ rfl _ _ 49 rfl w1.heap.size 5 i0 (.int .u8 0) 1 1 Tryz.underlying49 hi hz0 hz1 hz2 rfl (by decide) _ _ _ rfl (HO.out.alloc _) ⟨wr.heap.size, 0, none⟩ 1 1 [.int .u8 b] rfl rfl (cell_one _ _ _) (by simp [Value.oneCell']) (by unfold maxLen; have := HK.out; omega) (by have := HK.out; omega) (by have := HZ.out; simp; omega) ?_; intro v' w3 hown' hgrow hnil)
      clear hi hz0 hz1 hz2
      go_wp2
      go_roundw
      case rel =>
        have hxs3 := hgrow.size
        have hzz := HZ.out
        refine ⟨(i : Int) - 1, k + 1, by simp, HK.out, by have := HIK.out; have := HK.out; omega, ?_, ?_, ?_, by simp at hxs3; omega⟩
        · rw [HV.out]; exact hown'
        · exact (HX.out.alloc _).kept hgrow (fun e => by have := (HO.out.alloc (.cells #[.int .u8 b] 5)).lt _ e.symm; omega)
        · exact (HB.out.alloc (by omega) _).grown hgrow (by simp; omega) (fun j e => by have := (HO.out.alloc (.cells #[.int .u8 b] 5)).lt j e; omega)
      case measure => first | (simp [intOf]; done) | (simp [intOf]; omega)
    · obtain rfl : k = 32 := by omega
      obtain rfl : z = -1 := by omega
      obtain ⟨g', cap', rfl⟩ := ownsRow_succ (k := 31) hown
      have hback : (convert 49 9 (.slice (some ⟨g', 0, none⟩) 32 cap')).run Tryz.prog wr = .ok (.string (bytesOf a)) wr := by
        have hl : ((byteL a).map UInt8.ofNat).length = 32 := by simp [byteL]
        have h := run_convert_bytes_back (P := Tryz.prog) wr 49 9 5 ⟨g', 0, none⟩ cap' ((byteL a).map UInt8.ofNat) Tryz.underlying49 Tryz.underlying5 Tryz.underlying9 (fun j hj => by
          have hj2 : j < 32 := by omega
          have hcell := hown.cells (g := g') rfl j (.int .u8 (dg a (31 - j) : Int)) (by simp [bytV, hj2])
          rw [hcell]
          congr 2
          have hgt : ((byteL a).map UInt8.ofNat)[j] = UInt8.ofNat (byteN a (31 - j)) := by simp [byteL]
          refine Eq.trans ?_ (congrArg (fun c : UInt8 => (c.toNat : Int)) hgt).symm
          show (dg a (31 - j) : Int) = ((UInt8.ofNat (byteN a (31 - j))).toNat : Int)
          rw [UInt8.toNat_ofNat', Nat.mod_eq_of_lt (show byteN a (31 - j) < 2 ^ 8 from byteN_lt a _)]
          rfl)
        rw [hl, bytes_back] at h
        exact h
      have HB := Lib.hid hB
      clear hk hz hlt hown xx hB hsz
      go_wp2
      go_ret
      exact ⟨rfl, HB.out⟩

/-! ### FromBytes -/
/-- Digit j of a text, from its end. -/
def bd (l : List UInt8) (j : Nat) : Int := if j < l.length then ((l.reverse.getD j 0).toNat : Int) else 0
theorem bd_range (l : List UInt8) (j : Nat) : 0 ≤ bd l j ∧ bd l j < 256 := by
  unfold bd
  split
  · have := (l.reverse.getD j 0).toNat_lt; constructor <;> omega
  · constructor <;> omega
theorem bd_val (l : List UInt8) : valI (bd l) l.length = (octVal 0 l : Int) := by
  induction l with
  | nil => rfl
  | cons c r ih =>
    have e : valI (bd (c :: r)) r.length = valI (bd r) r.length := valI_congr _ _ _ (fun j hj => by
      unfold bd
      rw [if_pos (by simp; omega), if_pos hj]
      congr 2
      simp only [List.reverse_cons]
      rw [List.getD_eq_getElem?_getD, List.getD_eq_getElem?_getD, List.getElem?_append_left (by simpa using hj)])
    rw [List.length_cons, valI, e, ih]
    have e2 : bd (c :: r) r.length = (c.toNat : Int) := by
      unfold bd
      rw [if_pos (by simp)]
      simp only [List.reverse_cons]
      rw [List.getD_eq_getElem?_getD, List.getElem?_append_right (by simp)]
      simp
    rw [e2]
    show _ = ((octVal (0 * 256 + c.toNat) r : Nat) : Int)
    rw [octVal_from r (0 * 256 + c.toNat), Nat.zero_mul, Nat.zero_add, Int.natCast_add, Int.natCast_mul, Int.natCast_pow, show ((256 : Nat) : Int) = 256 from rfl]
    omega
theorem valI_more (d : Nat → Int) (n : Nat) (hz : ∀ j, n ≤ j → d j = 0) : ∀ m, n ≤ m → valI d m = valI d n
  | 0, h => by obtain rfl : n = 0 := by omega
               rfl
  | m + 1, h => by
    by_cases e : n = m + 1
    · rw [e]
    · rw [valI, hz m (by omega), valI_more d n hz m (by omega)]
      omega
theorem bd_last (l : List UInt8) : (valI (bd (l.drop (l.length - 32))) 32).toNat = fromB l := by
  have h1 := bd_val (l.drop (l.length - 32))
  have h2 := valI_more (bd (l.drop (l.length - 32))) (l.drop (l.length - 32)).length (fun j hj => if_neg (by omega)) 32 (by rw [List.length_drop]; omega)
  rw [h2, h1]
  rfl
theorem bd_at (s : ByteArray) (k i : Nat) (hk : k < 32) (hi : i + k + 1 = s.size) : bd (s.data.toList.drop (s.data.toList.length - 32)) k = ((s[i]'(by omega)).toNat : Int) := by
  have hl : s.data.toList.length = s.size := by simp
  unfold bd
  rw [if_pos (by rw [List.length_drop]; omega)]
  congr 2
  rw [List.getD_eq_getElem?_getD, List.getElem?_reverse (by rw [List.length_drop]; omega), List.length_drop, List.getElem?_drop, hl, show s.size - 32 + (s.size - (s.size - 32) - 1 - k) = i by omega, List.getElem?_eq_getElem (by omega)]
  rfl
theorem row_form {w : World} {base : Nat} {e : TypeId} {size : Nat} {v : Value} {n : Nat} {xs : List Value} (h : w.ownsRow base e size v n xs) : ∃ o cap, v = .slice o n cap := by
  rcases h.2 with ⟨rfl, rfl⟩ | ⟨g, cap, cur, rfl, _⟩
  · exact ⟨none, 0, rfl⟩
  · exact ⟨_, _, rfl⟩
def bdV (l : List UInt8) (n : Nat) : List Value := (List.range n).map fun j => Value.int .i64 (bd l j)
theorem bdV_succ (l : List UInt8) (n : Nat) : bdV l (n + 1) = bdV l n ++ [.int .i64 (bd l n)] := by simp [bdV, List.range_succ]

theorem fromDigits_nil (d : Nat → Int) (hz : ∀ j, 0 ≤ j → d j = 0) (c : Nat) (w : World) :
    Calls Tryz.prog 54 #[.slice none 0 c] w fun e w' => e = .returned (wv (valI d 32).toNat) ∧ Below w.heap.size w w' := by
  have e0 : (valI d 32).toNat = 0 := by
    rw [valI_congr d (fun _ => 0) 32 (fun j _ => hz j (Nat.zero_le j)), valI_zero]; rfl
  rw [e0, show wv 0 = .agg #[.int .u64 0, .int .u64 0, .int .u64 0, .int .u64 0] from wv_of ⟨by decide, by decide, by decide, by decide⟩]
  have A1 := (Arr4.mk0' w 25).alloc (.cells #[.int .u64 0, .int .u64 0, .int .u64 0, .int .u64 0] 25)
  have A2 := Arr4.mk0' (w.alloc (.cells #[.int .u64 0, .int .u64 0, .int .u64 0, .int .u64 0] 25)) 25
  have B0 := ((Below.refl _ w).alloc (Nat.le_refl _) (.cells #[.int .u64 0, .int .u64 0, .int .u64 0, .int .u64 0] 25)).alloc (by simp) (.cells #[.int .u64 0, .int .u64 0, .int .u64 0, .int .u64 0] 25)
  rw [World.size_alloc] at A2
  go_enter Tryz.func54, Tryz.ntmps54
  go_wp2
  obtain ⟨W0, hW0⟩ : ∃ W0, (w.alloc (.cells #[.int .u64 0, .int .u64 0, .int .u64 0, .int .u64 0] 25)).alloc (.cells #[.int .u64 0, .int .u64 0, .int .u64 0, .int .u64 0] 25) = W0 := ⟨_, rfl⟩
  rw [hW0] at A1 A2 B0 ⊢
  clear hW0 e0
  go_loopw [4] (fun i wr => i = .int .i64 (-1) ∧ Arr4 wr w.heap.size 25 (fun _ => 0) ∧ Arr4 wr (w.heap.size + 1) 25 (fun _ => 0) ∧ Below w.heap.size w wr) (fun i _ => 0)
  case atStart => exact ⟨rfl, A1, A2, B0⟩
  case round =>
    obtain ⟨rfl, a1, a2, hB⟩ := hrel
    clear A1 A2 B0
    have c0 := a2.cell (j := 0) (by omega)
    have c1 := a2.cell (j := 1) (by omega)
    have c2 := a2.cell (j := 2) (by omega)
    have c3 := a2.cell (j := 3) (by omega)
    have f0 := a1.frozen 0
    have f1 := a1.frozen 1
    have f2 := a1.frozen 2
    have f3 := a1.frozen 3
    have d0 := a1.cell (j := 0) (by omega)
    have d1 := a1.cell (j := 1) (by omega)
    have d2 := a1.cell (j := 2) (by omega)
    have d3 := a1.cell (j := 3) (by omega)
    have HA1 := Lib.hid a1
    have HB := Lib.hid hB
    clear a1 a2 hB
    go_wp2
    refine bodyPost_ret (results_word rfl rfl (HA1.out.store (fun _ => 0))) rfl ⟨rfl, ?_⟩
    exact (((HB.out.setCell (p := ⟨w.heap.size, 0, none⟩) (by simp) _).setCell (p := ⟨w.heap.size, 1, none⟩) (by simp) _).setCell (p := ⟨w.heap.size, 2, none⟩) (by simp) _).setCell (p := ⟨w.heap.size, 3, none⟩) (by simp) _

set_option maxRecDepth 100000 in
set_option maxHeartbeats 4000000 in
theorem refFromBytes_ret (s : ByteArray) (hs : s.size ≤ 140737488355328) : Ret Tryz.prog 33 #[.string s] (wv (fromB s.data.toList)) := by
  intro w
  have hl : s.data.toList.length = s.size := by simp
  have HL := Lib.hid (bd_last s.data.toList)
  have HAT := Lib.hid (fun k i (hk : k < 32) (hi : i + k + 1 = s.size) => bd_at s k i hk hi)
  have HBR := Lib.hid (bd_range (s.data.toList.drop (s.data.toList.length - 32)))
  have HBZ : Hid (∀ j, min s.size 32 ≤ j → bd (s.data.toList.drop (s.data.toList.length - 32)) j = 0) := fun j hj => if_neg (by rw [List.length_drop]; omega)
  generalize bd (s.data.toList.drop (s.data.toList.length - 32)) = d at *
  generalize fromB s.data.toList = N at *
  clear hl
  have A0 := Arr4.mk0' w 25
  have B0 := (Below.refl _ w).alloc (Nat.le_refl _) (.cells #[.int .u64 0, .int .u64 0, .int .u64 0, .int .u64 0] 25)
  have s0 : w.heap.size + 1 ≤ (w.alloc (.cells #[.int .u64 0, .int .u64 0, .int .u64 0, .int .u64 0] 25)).heap.size := by simp
  have R0 := World.ownsRow_nil (w.alloc (.cells #[.int .u64 0, .int .u64 0, .int .u64 0, .int .u64 0] 25)) (w.heap.size + 1) 3 1
  have hsI : (s.size : Int) ≤ 140737488355328 := by omega
  have hsI0 : (0 : Int) ≤ (s.size : Int) := by omega
  go_enter Tryz.func33, Tryz.ntmps33
  go_wp2
  obtain ⟨W0, hW0⟩ : ∃ W0, w.alloc (.cells #[.int .u64 0, .int .u64 0, .int .u64 0, .int .u64 0] 25) = W0 := ⟨_, rfl⟩
  rw [hW0] at A0 B0 s0 R0 ⊢
  clear hW0
  go_loopw [3, 4] (fun t i wr => ∃ (z : Int) (k : Nat), i = .int .i64 z ∧ k ≤ 32 ∧ k ≤ s.size ∧ z = (s.size : Int) - 1 - (k : Int) ∧ wr.ownsRow (w.heap.size + 1) 3 1 t k ((List.range k).map fun j => Value.int .i64 (d j)) ∧ Arr4 wr w.heap.size 25 (fun _ => 0) ∧ Below w.heap.size w wr ∧ w.heap.size + 1 ≤ wr.heap.size) (fun _ i _ => (intOf i + 1).toNat)
  case atStart => exact ⟨_, 0, rfl, by omega, by omega, by simp, R0, A0, B0, s0⟩
  case round =>
    obtain ⟨z, k, rfl, hk, hks, hz, hown, aa, hB, hsz⟩ := hrel
    clear R0 A0 B0 s0
    obtain ⟨o, cap, rfl⟩ := row_form hown
    by_cases hlt : k < s.size ∧ k < 32
    · obtain ⟨hlt1, hlt2⟩ := hlt
      obtain ⟨i, hi⟩ : ∃ i : Nat, z = i := ⟨s.size - 1 - k, by omega⟩
      subst hi
      have hik : i + k + 1 = s.size := by omega
      have hi0 : (0 : Int) ≤ (i : Int) := by omega
      have his : i < s.size := by omega
      have hiI : (i : Int) < (s.size : Int) := by omega
      have hkI : (k : Int) < 32 := by omega
      have hk0 : (0 : Int) ≤ (k : Int) := by omega
      have hat : d k = ((s[i]'his).toNat : Int) := HAT.out k i hlt2 hik
      have hb := s[i].toNat_lt
      have b0 : (0 : Int) ≤ (s[i].toNat : Int) := by omega
      have b1 : (s[i].toNat : Int) < 256 := by omega
      have HD := Lib.hid hat
      have HK := Lib.hid (And.intro hlt1 hlt2)
      have HIK := Lib.hid hik
      have HA := Lib.hid aa
      have HO := Lib.hid hown
      have HB := Lib.hid hB
      have HZ := Lib.hid hsz
      obtain ⟨i0, hi, hz0, hz1, hz2⟩ := info_parts infoI
      clear hk hks hz hlt1 hlt2 hik hown aa hB hsz hb hat
      go_wp2_with (at_builtin; refine wpList_append_own _ rfl _ _ 96 rfl (w.heap.size + 1) 3 i0 (.int .i64 0) 1 8 Tryz.underlying96 hi hz0 hz1 hz2 rfl (by decide) _ _ _ rfl (HO.out.alloc _) ⟨wr.heap.size, 0, none⟩ 1 1 [.int .i64 (s[i].toNat : Int)] rfl rfl (cell_one _ _ _) (by simp [Value.oneCell']) (by unfold maxLen; have := HK.out; omega) (by have := HK.out; omega) (by have := HZ.out; simp; omega) ?_; intro v' w3 hown' hgrow hnil)
      clear hi hz0 hz1 hz2
      go_wp2
      go_roundw
      case rel =>
        have hxs3 := hgrow.size
        have hzz := HZ.out
        have hltA := HA.out.lt
        refine ⟨(i : Int) - 1, k + 1, by simp, by have := HK.out; omega, by have := HK.out; omega, by have := HIK.out; omega, ?_, ?_, ?_, by simp at hxs3; omega⟩
        · rw [List.range_succ, List.map_append, List.map_cons, List.map_nil, HD.out]; exact hown'
        · exact (HA.out.alloc _).kept hgrow (fun e => by have := (HO.out.alloc (.cells #[.int .i64 (s[i].toNat : Int)] 3)).lt _ e.symm; omega)
        · exact (HB.out.alloc (by omega) _).grown hgrow (by simp; omega) (fun j e => by have := (HO.out.alloc (.cells #[.int .i64 (s[i].toNat : Int)] 3)).lt j e; omega)
      case measure => first | (simp [intOf]; done) | (simp [intOf]; omega)
    · have hm : k = min s.size 32 := by omega
      have DD : Calls Tryz.prog 54 #[.slice o k cap] wr fun e w' => e = .returned (wv N) ∧ Below wr.heap.size wr w' := by
        rw [← HL.out]
        rcases hown.2 with ⟨h1, h2⟩ | ⟨g, cap', cur, h1, hb, hg, _⟩
        · cases h1
          exact fromDigits_nil d (fun j _ => HBZ.out j (by omega)) 0 wr
        · cases h1
          have hx := IntsAt.of_row (d := d) hown (fun j hj => by simp [hj])
          exact fromDigits_any d HBR.out k g cap (by omega) (fun j hj => HBZ.out j (by omega)) wr hx.2
      have HA := Lib.hid aa
      have HB := Lib.hid hB
      have HDD := Lib.hid DD
      have hk0 : (0 : Int) ≤ (k : Int) := by omega
      unfold wv at HDD
      by_cases h32 : k = 32
      · subst h32
        by_cases hz1 : 0 ≤ z
        · clear hk hks hz hown aa hB hsz hlt hm DD
          go_wp2_with fail
          refine HDD.out.mono ?_
          rintro e w4 ⟨rfl, q⟩
          have a3 := HA.out.later' q
          have HB := Lib.hid (HB.out.trans (q.mono HB.out.size))
          clear q HDD HA
          have f0 := a3.frozen 0
          have f1 := a3.frozen 1
          have f2 := a3.frozen 2
          have f3 := a3.frozen 3
          have d0 := a3.cell (j := 0) (by omega)
          have d1 := a3.cell (j := 1) (by omega)
          have d2 := a3.cell (j := 2) (by omega)
          have d3 := a3.cell (j := 3) (by omega)
          have HA := Lib.hid a3
          clear a3
          go_wp2
          refine bodyPost_ret (results_word rfl rfl (HA.out.store _)) rfl ⟨rfl, ?_⟩
          exact (((HB.out.setCell (p := ⟨w.heap.size, 0, none⟩) (by simp) _).setCell (p := ⟨w.heap.size, 1, none⟩) (by simp) _).setCell (p := ⟨w.heap.size, 2, none⟩) (by simp) _).setCell (p := ⟨w.heap.size, 3, none⟩) (by simp) _
        · clear hk hks hz hown aa hB hsz hlt hm DD
          go_wp2_with fail
          refine HDD.out.mono ?_
          rintro e w4 ⟨rfl, q⟩
          have a3 := HA.out.later' q
          have HB := Lib.hid (HB.out.trans (q.mono HB.out.size))
          clear q HDD HA
          have f0 := a3.frozen 0
          have f1 := a3.frozen 1
          have f2 := a3.frozen 2
          have f3 := a3.frozen 3
          have d0 := a3.cell (j := 0) (by omega)
          have d1 := a3.cell (j := 1) (by omega)
          have d2 := a3.cell (j := 2) (by omega)
          have d3 := a3.cell (j := 3) (by omega)
          have HA := Lib.hid a3
          clear a3
          go_wp2
          refine bodyPost_ret (results_word rfl rfl (HA.out.store _)) rfl ⟨rfl, ?_⟩
          exact (((HB.out.setCell (p := ⟨w.heap.size, 0, none⟩) (by simp) _).setCell (p := ⟨w.heap.size, 1, none⟩) (by simp) _).setCell (p := ⟨w.heap.size, 2, none⟩) (by simp) _).setCell (p := ⟨w.heap.size, 3, none⟩) (by simp) _
      · obtain rfl : z = -1 := by omega
        clear hk hks hz hown aa hB hsz hlt hm DD h32
        go_wp2_with fail
        refine HDD.out.mono ?_
        rintro e w4 ⟨rfl, q⟩
        have a3 := HA.out.later' q
        have HB := Lib.hid (HB.out.trans (q.mono HB.out.size))
        clear q HDD HA
        have f0 := a3.frozen 0
        have f1 := a3.frozen 1
        have f2 := a3.frozen 2
        have f3 := a3.frozen 3
        have d0 := a3.cell (j := 0) (by omega)
        have d1 := a3.cell (j := 1) (by omega)
        have d2 := a3.cell (j := 2) (by omega)
        have d3 := a3.cell (j := 3) (by omega)
        have HA := Lib.hid a3
        clear a3
        go_wp2
        refine bodyPost_ret (results_word rfl rfl (HA.out.store _)) rfl ⟨rfl, ?_⟩
        exact (((HB.out.setCell (p := ⟨w.heap.size, 0, none⟩) (by simp) _).setCell (p := ⟨w.heap.size, 1, none⟩) (by simp) _).setCell (p := ⟨w.heap.size, 2, none⟩) (by simp) _).setCell (p := ⟨w.heap.size, 3, none⟩) (by simp) _
end Go.Proofs.YtbbpmcebakckaaaGreatDoor

/- The laws' first call answers true. Conditions: errors.errorType lies in memory as it was laid. -/
namespace Go.Proofs.YtbbpmcebakckaaaGreatDoor
open Go Go.RowKit
attribute [local go_sem] Oper.semAt_some Grows wide_fn eq4 itemField1

theorem dec_fail (s : ByteArray) (x p : Nat) (xi pi : Int) (h : decR s = .no x p) (hx : (x : Int) = xi) (hp : (p : Int) = pi) (hs : s.size ≤ 1099511627776) (w : World) (hT : TabE w) :
    Calls Tryz.prog 21 #[.string s] w fun e w' => e = .returned (.tuple #[.agg #[.bool false, .string ⟨#[]⟩, .slice none 0 0], .int .i64 xi, .int .i64 pi]) ∧ Below w.heap.size w w' := by
  have := decode_any s hs w hT
  rw [h] at this
  subst hx hp
  exact this
theorem dec_good (s : ByteArray) (t : It) (a m : Nat) (h : decR s = .ok t a m) (hs : s.size ≤ 1099511627776) (w : World) (hT : TabE w) :
    Calls Tryz.prog 21 #[.string s] w fun e w' => ∃ v, e = .returned (.tuple #[v, .int .i64 0, .int .i64 0]) ∧ ItemS w' (fun b => w.heap.size ≤ b) t v ∧ Below w.heap.size w w' := by
  have := decode_any s hs w hT
  rw [h] at this
  exact this
theorem wv_1024 : wv 1024 = W4 1024 0 0 0 := wv_of ⟨by decide, by decide, by decide, by decide⟩
theorem wv_0 : wv 0 = W4 0 0 0 0 := wv_of ⟨by decide, by decide, by decide, by decide⟩
theorem c_of : Ret Tryz.prog 23 #[.int .i64 1024] (W4 1024 0 0 0) := (refOf_ret 1024 (by unfold I64; omega)).of_eq rfl wv_1024
theorem c_num : Ret Tryz.prog 8 #[W4 1024 0 0 0] (.agg #[.bool false, .string ⟨#[4, 0]⟩, .slice none 0 0]) := by
  have := number_ret 1024 (by unfold W256; omega)
  rw [digs_1024, wv_1024] at this
  exact this
theorem c_val : Ret Tryz.prog 12 #[.agg #[.bool false, .string ⟨#[4, 0]⟩, .slice none 0 0]] (.tuple #[W4 1024 0 0 0, .bool true]) := fun w => by
  have h1 : W256 1024 := by unfold W256; omega
  have := value_any _ _ w (txt_at (digs 1024) (by have := digs_w h1; omega) w)
  rw [valN_digs h1, valB_digs h1, digs_1024, wv_1024] at this
  exact this
theorem c_not : Ret Tryz.prog 14 #[.agg #[.bool true, .string ⟨#[97]⟩, .slice none 0 0]] (.bool false) := fun w => by
  have := right_any (.mk true ⟨#[97]⟩ []) (.agg #[.bool true, .string ⟨#[97]⟩, .slice none 0 0]) w (by unfold ItemAt; exact ⟨none, 0, rfl, by simp, by decide, .inl rfl⟩) (by simp [countI, countL])
  rwa [right_not] at this
theorem c_enc (v : Value) (w : World) (h : ItemAt w xI v) : Calls Tryz.prog 10 #[v] w fun e w' => e = .returned (.tuple #[.string ⟨#[200, 131, 99, 97, 116, 131, 100, 111, 103]⟩, .int .i64 0]) ∧ Below w.heap.size w w' := by
  have := encode_any xI (by rw [countI_x]; omega) (by rw [encI_x]; decide) v w h
  rw [encE_x, encS_x] at this
  exact this
theorem c_valx (v : Value) (w : World) (h : ItemAt w xI v) : Calls Tryz.prog 12 #[v] w fun e w' => e = .returned (.tuple #[W4 0 0 0 0, .bool false]) ∧ Below w.heap.size w w' := by
  have := value_any xI v w h
  rw [valN_x, valB_x, wv_0] at this
  exact this
theorem c_rightx (v : Value) (w : World) (h : ItemAt w xI v) : Calls Tryz.prog 14 #[v] w fun e w' => e = .returned (.bool true) ∧ Below w.heap.size w w' := by
  have := right_any xI v w h (by rw [countI_x]; omega)
  rwa [ok_x] at this
theorem c_same (v u : Value) (w : World) (h : ItemAt w xI v) (h' : ItemAt w xI u) : Calls Tryz.prog 16 #[v, u] w fun e w' => e = .returned (.bool true) ∧ Below w.heap.size w w' := by
  have := psame xI xI v u w h h'
  rwa [same_self] at this
theorem x_kids (W : World) (g : Nat) (h : Has W g 29 #[.bool false, .string ⟨#[99, 97, 116]⟩, .slice none 0 0, .bool false, .string ⟨#[100, 111, 103]⟩, .slice none 0 0]) : KidsIn W [catI, dogI] (some ⟨g, 0, none⟩) := by
  refine .inr ⟨g, 0, rfl, ?_⟩
  unfold KidsAt
  refine ⟨⟨_, _, _, h.cell 0 _ rfl, h.cell 1 _ rfl, h.cell 2 _ rfl, ?_⟩, ?_⟩
  · unfold catI ItemAt
    exact ⟨none, 0, rfl, by simp, by decide, .inl rfl⟩
  · unfold KidsAt
    refine ⟨⟨_, _, _, h.cell 3 _ rfl, h.cell 4 _ rfl, h.cell 5 _ rfl, ?_⟩, ?_⟩
    · unfold dogI ItemAt
      exact ⟨none, 0, rfl, by simp, by decide, .inl rfl⟩
    · unfold KidsAt
      trivial

set_option maxRecDepth 100000 in
set_option maxHeartbeats 8000000 in
theorem awake_any (w : World) (hT : TabE w) : Calls Tryz.prog 4 #[] w fun e w' => e = .returned (.bool true) ∧ Below w.heap.size w w' := by
  have hmx : Tryz.prog.follows .mixedOrders = true := by kernel_rfl
  have Q := Lib.hid (Below.refl w.heap.size w)
  replace hT := Lib.hid hT
  have d_of := Lib.hid c_of
  have d_num := Lib.hid c_num
  have d_val := Lib.hid c_val
  have d_not := Lib.hid c_not
  unfold W4 at d_of d_num d_val
  go_enter Tryz.func4, Tryz.ntmps4
  go_wp2_with fail
  refine (text_any _ _).mono ?_
  rintro _ W1 ⟨rfl, q⟩
  replace Q := Lib.hid (Q.out.trans (q.mono Q.out.size))
  replace hT := Lib.hid (hT.out.later q)
  clear q
  go_wp2_with fail
  refine (text_any _ _).mono ?_
  rintro _ W2 ⟨rfl, q⟩
  replace Q := Lib.hid (Q.out.trans (q.mono Q.out.size))
  replace hT := Lib.hid (hT.out.later q)
  clear q
  go_wp2_with fail
  have q0 := (Below.refl W2.heap.size W2).alloc (Nat.le_refl _) (.cells #[.bool false, .string ⟨#[99, 97, 116]⟩, .slice none 0 0, .bool false, .string ⟨#[100, 111, 103]⟩, .slice none 0 0] 29)
  replace Q := Lib.hid (Q.out.trans (q0.mono Q.out.size))
  replace hT := Lib.hid (hT.out.later q0)
  refine (list_any [catI, dogI] (some ⟨W2.heap.size, 0, none⟩) 2 _ (x_kids _ _ (Has.new W2 29 #[.bool false, .string ⟨#[99, 97, 116]⟩, .slice none 0 0, .bool false, .string ⟨#[100, 111, 103]⟩, .slice none 0 0])) (by decide)).mono ?_
  rintro _ W3 ⟨g, cap, rfl, hX, q⟩
  replace Q := Lib.hid (Q.out.trans (q.mono Q.out.size))
  replace hT := Lib.hid (hT.out.later q)
  clear q q0
  replace hX := Lib.hid (show ItemAt W3 xI (.agg #[.bool true, .string ⟨#[]⟩, .slice g 2 cap]) from hX.at)
  simp only [List.length_cons, List.length_nil, Nat.zero_add, Nat.reduceAdd]
  have NX := Has.new W3 29 #[.bool false, .string ⟨#[]⟩, .slice none 0 0]
  have x0 := NX.cell 0 _ rfl
  have f0 := NX.frozen 0
  have x1 := NX.cell 1 _ rfl
  have f1 := NX.frozen 1
  have x2 := NX.cell 2 _ rfl
  have f2 := NX.frozen 2
  replace NX := Lib.hid NX
  obtain ⟨V1, hV1⟩ : ∃ V1, W3.alloc (.cells #[.bool true, .string ⟨#[]⟩, .slice g 2 cap] 29) = V1 := ⟨_, rfl⟩
  have qn : Below W3.heap.size W3 V1 := by rw [← hV1]; exact (Below.refl _ _).alloc (Nat.le_refl _) _
  have L1 := Lib.hid (show Has V1 W3.heap.size 29 #[.bool true, .string ⟨#[]⟩, .slice g 2 cap] by rw [← hV1]; exact Has.new _ _ _)
  replace Q := Lib.hid (Q.out.trans (qn.mono Q.out.size))
  replace hT := Lib.hid (hT.out.later qn)
  replace hX := Lib.hid (hX.out.later qn)
  have c0 := L1.out.cell 0 _ rfl
  have c1 := L1.out.cell 1 _ rfl
  have c2 := L1.out.cell 2 _ rfl
  go_wp2_with fail
  clear qn NX x0 f0 x1 f1 x2 f2 hV1
  clear c0 c1 c2
  refine (c_enc _ _ hX.out).mono ?_
  rintro _ W4x ⟨rfl, q⟩
  replace Q := Lib.hid (Q.out.trans (q.mono Q.out.size))
  replace hT := Lib.hid (hT.out.later q)
  replace hX := Lib.hid (hX.out.later q)
  replace L1 := Lib.hid (L1.out.later q)
  clear q
  go_wp2_with fail
  refine (dec_good _ _ _ _ dec_x (by decide) _ hT.out).mono ?_
  rintro _ W5 ⟨v, rfl, hY, q⟩
  replace Q := Lib.hid (Q.out.trans (q.mono Q.out.size))
  replace hT := Lib.hid (hT.out.later q)
  replace hX := Lib.hid (hX.out.later q)
  replace L1 := Lib.hid (L1.out.later q)
  clear q
  obtain ⟨g2, cap2, rfl, _⟩ := hY.open
  replace hY := Lib.hid (show ItemAt W5 xI (.agg #[.bool true, .string ⟨#[]⟩, .slice g2 2 cap2]) from hY.at)
  simp only [show xI.list = true from rfl, show xI.bytes = ⟨#[]⟩ from rfl, show xI.kids.length = 2 from rfl]
  have NX := Has.new W5 29 #[.bool false, .string ⟨#[]⟩, .slice none 0 0]
  have x0 := NX.cell 0 _ rfl
  have f0 := NX.frozen 0
  have x1 := NX.cell 1 _ rfl
  have f1 := NX.frozen 1
  have x2 := NX.cell 2 _ rfl
  have f2 := NX.frozen 2
  replace NX := Lib.hid NX
  obtain ⟨V2, hV2⟩ : ∃ V2, W5.alloc (.cells #[.bool true, .string ⟨#[]⟩, .slice g2 2 cap2] 29) = V2 := ⟨_, rfl⟩
  have qn : Below W5.heap.size W5 V2 := by rw [← hV2]; exact (Below.refl _ _).alloc (Nat.le_refl _) _
  have L4 := Lib.hid (show Has V2 W5.heap.size 29 #[.bool true, .string ⟨#[]⟩, .slice g2 2 cap2] by rw [← hV2]; exact Has.new _ _ _)
  replace Q := Lib.hid (Q.out.trans (qn.mono Q.out.size))
  replace hT := Lib.hid (hT.out.later qn)
  replace hX := Lib.hid (hX.out.later qn)
  replace L1 := Lib.hid (L1.out.later qn)
  replace hY := Lib.hid (hY.out.later qn)
  go_wp2_with fail
  clear qn NX x0 f0 x1 f1 x2 f2 hV2
  refine (dec_fail _ _ _ 11 0 dec_a rfl rfl (by decide) _ hT.out).mono ?_
  rintro _ X0 ⟨rfl, q⟩
  replace Q := Lib.hid (Q.out.trans (q.mono Q.out.size))
  replace hT := Lib.hid (hT.out.later q)
  replace hX := Lib.hid (hX.out.later q)
  replace L1 := Lib.hid (L1.out.later q)
  replace hY := Lib.hid (hY.out.later q)
  replace L4 := Lib.hid (L4.out.later q)
  clear q
  have NX := Has.new X0 29 #[.bool false, .string ⟨#[]⟩, .slice none 0 0]
  have x0 := NX.cell 0 _ rfl
  have f0 := NX.frozen 0
  have x1 := NX.cell 1 _ rfl
  have f1 := NX.frozen 1
  have x2 := NX.cell 2 _ rfl
  have f2 := NX.frozen 2
  replace NX := Lib.hid NX
  go_wp2_with fail
  obtain ⟨V3, hV3⟩ : ∃ V3, X0.alloc (.cells #[.bool false, .string ⟨#[]⟩, .slice none 0 0] 29) = V3 := ⟨_, rfl⟩
  have qn : Below X0.heap.size X0 V3 := by rw [← hV3]; exact (Below.refl _ _).alloc (Nat.le_refl _) _
  rw [hV3]
  replace Q := Lib.hid (Q.out.trans (qn.mono Q.out.size))
  replace hT := Lib.hid (hT.out.later qn)
  replace hX := Lib.hid (hX.out.later qn)
  replace L1 := Lib.hid (L1.out.later qn)
  replace hY := Lib.hid (hY.out.later qn)
  replace L4 := Lib.hid (L4.out.later qn)
  clear qn NX x0 f0 x1 f1 x2 f2 hV3
  refine (dec_fail _ _ _ 10 0 dec_b rfl rfl (by decide) _ hT.out).mono ?_
  rintro _ X1 ⟨rfl, q⟩
  replace Q := Lib.hid (Q.out.trans (q.mono Q.out.size))
  replace hT := Lib.hid (hT.out.later q)
  replace hX := Lib.hid (hX.out.later q)
  replace L1 := Lib.hid (L1.out.later q)
  replace hY := Lib.hid (hY.out.later q)
  replace L4 := Lib.hid (L4.out.later q)
  clear q
  have NX := Has.new X1 29 #[.bool false, .string ⟨#[]⟩, .slice none 0 0]
  have x0 := NX.cell 0 _ rfl
  have f0 := NX.frozen 0
  have x1 := NX.cell 1 _ rfl
  have f1 := NX.frozen 1
  have x2 := NX.cell 2 _ rfl
  have f2 := NX.frozen 2
  replace NX := Lib.hid NX
  go_wp2_with fail
  obtain ⟨V4, hV4⟩ : ∃ V4, X1.alloc (.cells #[.bool false, .string ⟨#[]⟩, .slice none 0 0] 29) = V4 := ⟨_, rfl⟩
  have qn : Below X1.heap.size X1 V4 := by rw [← hV4]; exact (Below.refl _ _).alloc (Nat.le_refl _) _
  rw [hV4]
  replace Q := Lib.hid (Q.out.trans (qn.mono Q.out.size))
  replace hT := Lib.hid (hT.out.later qn)
  replace hX := Lib.hid (hX.out.later qn)
  replace L1 := Lib.hid (L1.out.later qn)
  replace hY := Lib.hid (hY.out.later qn)
  replace L4 := Lib.hid (L4.out.later qn)
  clear qn NX x0 f0 x1 f1 x2 f2 hV4
  refine (dec_fail _ _ _ 12 1 dec_c rfl rfl (by decide) _ hT.out).mono ?_
  rintro _ X2 ⟨rfl, q⟩
  replace Q := Lib.hid (Q.out.trans (q.mono Q.out.size))
  replace hT := Lib.hid (hT.out.later q)
  replace hX := Lib.hid (hX.out.later q)
  replace L1 := Lib.hid (L1.out.later q)
  replace hY := Lib.hid (hY.out.later q)
  replace L4 := Lib.hid (L4.out.later q)
  clear q
  have NX := Has.new X2 29 #[.bool false, .string ⟨#[]⟩, .slice none 0 0]
  have x0 := NX.cell 0 _ rfl
  have f0 := NX.frozen 0
  have x1 := NX.cell 1 _ rfl
  have f1 := NX.frozen 1
  have x2 := NX.cell 2 _ rfl
  have f2 := NX.frozen 2
  replace NX := Lib.hid NX
  go_wp2_with fail
  obtain ⟨V5, hV5⟩ : ∃ V5, X2.alloc (.cells #[.bool false, .string ⟨#[]⟩, .slice none 0 0] 29) = V5 := ⟨_, rfl⟩
  have qn : Below X2.heap.size X2 V5 := by rw [← hV5]; exact (Below.refl _ _).alloc (Nat.le_refl _) _
  rw [hV5]
  replace Q := Lib.hid (Q.out.trans (qn.mono Q.out.size))
  replace hT := Lib.hid (hT.out.later qn)
  replace hX := Lib.hid (hX.out.later qn)
  replace L1 := Lib.hid (L1.out.later qn)
  replace hY := Lib.hid (hY.out.later qn)
  replace L4 := Lib.hid (L4.out.later qn)
  clear qn NX x0 f0 x1 f1 x2 f2 hV5
  refine (d_of.out _).mono ?_
  rintro _ X3 ⟨rfl, q⟩
  replace Q := Lib.hid (Q.out.trans (q.mono Q.out.size))
  replace hT := Lib.hid (hT.out.later q)
  replace hX := Lib.hid (hX.out.later q)
  replace L1 := Lib.hid (L1.out.later q)
  replace hY := Lib.hid (hY.out.later q)
  replace L4 := Lib.hid (L4.out.later q)
  clear q
  go_wp2_with fail
  refine (d_num.out _).mono ?_
  rintro _ X4 ⟨rfl, q⟩
  replace Q := Lib.hid (Q.out.trans (q.mono Q.out.size))
  replace hT := Lib.hid (hT.out.later q)
  replace hX := Lib.hid (hX.out.later q)
  replace L1 := Lib.hid (L1.out.later q)
  replace hY := Lib.hid (hY.out.later q)
  replace L4 := Lib.hid (L4.out.later q)
  clear q
  go_wp2_with fail
  refine (d_val.out _).mono ?_
  rintro _ X5 ⟨rfl, q⟩
  replace Q := Lib.hid (Q.out.trans (q.mono Q.out.size))
  replace hT := Lib.hid (hT.out.later q)
  replace hX := Lib.hid (hX.out.later q)
  replace L1 := Lib.hid (L1.out.later q)
  replace hY := Lib.hid (hY.out.later q)
  replace L4 := Lib.hid (L4.out.later q)
  clear q
  have NX := Has.new X5 25 #[.int .u64 0, .int .u64 0, .int .u64 0, .int .u64 0]
  have L16 := Has.new X5 25 #[.int .u64 1024, .int .u64 0, .int .u64 0, .int .u64 0]
  have x0 := NX.cell 0 _ rfl
  have f0 := NX.frozen 0
  have y0 := L16.cell 0 _ rfl
  have g0 := L16.frozen 0
  have x1 := NX.cell 1 _ rfl
  have f1 := NX.frozen 1
  have y1 := L16.cell 1 _ rfl
  have g1 := L16.frozen 1
  have x2 := NX.cell 2 _ rfl
  have f2 := NX.frozen 2
  have y2 := L16.cell 2 _ rfl
  have g2 := L16.frozen 2
  have x3 := NX.cell 3 _ rfl
  have f3 := NX.frozen 3
  have y3 := L16.cell 3 _ rfl
  have g3 := L16.frozen 3
  have q0 := (Below.refl X5.heap.size X5).alloc (Nat.le_refl _) (.cells #[.int .u64 1024, .int .u64 0, .int .u64 0, .int .u64 0] 25)
  replace Q := Lib.hid (Q.out.trans (q0.mono Q.out.size))
  replace hT := Lib.hid (hT.out.later q0)
  replace hX := Lib.hid (hX.out.later q0)
  replace L1 := Lib.hid (L1.out.later q0)
  replace hY := Lib.hid (hY.out.later q0)
  replace L4 := Lib.hid (L4.out.later q0)
  have c0 := L1.out.cell 0 _ rfl
  have c1 := L1.out.cell 1 _ rfl
  have c2 := L1.out.cell 2 _ rfl
  replace NX := Lib.hid NX
  replace L16 := Lib.hid L16
  go_wp2_with fail
  obtain ⟨V6, hV6⟩ : ∃ V6, X5.alloc (.cells #[.int .u64 1024, .int .u64 0, .int .u64 0, .int .u64 0] 25) = V6 := ⟨_, rfl⟩
  rw [hV6] at hX hY L1 L4 L16 hT Q ⊢
  clear q0 hV6 NX x0 f0 y0 g0 x1 f1 y1 g1 x2 f2 y2 g2 x3 f3 y3 g3
  clear c0 c1 c2
  refine (c_valx _ _ hX.out).mono ?_
  rintro _ X6 ⟨rfl, q⟩
  replace Q := Lib.hid (Q.out.trans (q.mono Q.out.size))
  replace hT := Lib.hid (hT.out.later q)
  replace hX := Lib.hid (hX.out.later q)
  replace L1 := Lib.hid (L1.out.later q)
  replace hY := Lib.hid (hY.out.later q)
  replace L4 := Lib.hid (L4.out.later q)
  replace L16 := Lib.hid (L16.out.later q)
  clear q
  unfold W4
  have NX := Has.new X6 25 #[.int .u64 0, .int .u64 0, .int .u64 0, .int .u64 0]
  have x0 := NX.cell 0 _ rfl
  have f0 := NX.frozen 0
  have x1 := NX.cell 1 _ rfl
  have f1 := NX.frozen 1
  have x2 := NX.cell 2 _ rfl
  have f2 := NX.frozen 2
  have x3 := NX.cell 3 _ rfl
  have f3 := NX.frozen 3
  replace NX := Lib.hid NX
  go_wp2_with fail
  obtain ⟨V6, hV6⟩ : ∃ V6, X6.alloc (.cells #[.int .u64 0, .int .u64 0, .int .u64 0, .int .u64 0] 25) = V6 := ⟨_, rfl⟩
  have qn : Below X6.heap.size X6 V6 := by rw [← hV6]; exact (Below.refl _ _).alloc (Nat.le_refl _) _
  rw [hV6]
  replace Q := Lib.hid (Q.out.trans (qn.mono Q.out.size))
  replace hT := Lib.hid (hT.out.later qn)
  replace hX := Lib.hid (hX.out.later qn)
  replace L1 := Lib.hid (L1.out.later qn)
  replace hY := Lib.hid (hY.out.later qn)
  replace L4 := Lib.hid (L4.out.later qn)
  replace L16 := Lib.hid (L16.out.later qn)
  clear qn NX x0 f0 x1 f1 x2 f2 x3 f3 hV6
  generalize W3.heap.size = b1 at *
  generalize W5.heap.size = b4 at *
  generalize X5.heap.size = b16 at *
  have kb10 : ∀ x : Ext V6, x.w.cell? ⟨b1, 0, none⟩ = some (.bool true) := fun x => (L1.out.later x.below).cell 0 _ rfl
  have kb11 : ∀ x : Ext V6, x.w.cell? ⟨b1, 1, none⟩ = some (.string ⟨#[]⟩) := fun x => (L1.out.later x.below).cell 1 _ rfl
  have kb12 : ∀ x : Ext V6, x.w.cell? ⟨b1, 2, none⟩ = some (.slice g 2 cap) := fun x => (L1.out.later x.below).cell 2 _ rfl
  have kb40 : ∀ x : Ext V6, x.w.cell? ⟨b4, 0, none⟩ = some (.bool true) := fun x => (L4.out.later x.below).cell 0 _ rfl
  have kb41 : ∀ x : Ext V6, x.w.cell? ⟨b4, 1, none⟩ = some (.string ⟨#[]⟩) := fun x => (L4.out.later x.below).cell 1 _ rfl
  have kb42 : ∀ x : Ext V6, x.w.cell? ⟨b4, 2, none⟩ = some (.slice g2 2 cap2) := fun x => (L4.out.later x.below).cell 2 _ rfl
  have kb160 : ∀ x : Ext V6, x.w.cell? ⟨b16, 0, none⟩ = some (.int .u64 1024) := fun x => (L16.out.later x.below).cell 0 _ rfl
  have kb161 : ∀ x : Ext V6, x.w.cell? ⟨b16, 1, none⟩ = some (.int .u64 0) := fun x => (L16.out.later x.below).cell 1 _ rfl
  have kb162 : ∀ x : Ext V6, x.w.cell? ⟨b16, 2, none⟩ = some (.int .u64 0) := fun x => (L16.out.later x.below).cell 2 _ rfl
  have kb163 : ∀ x : Ext V6, x.w.cell? ⟨b16, 3, none⟩ = some (.int .u64 0) := fun x => (L16.out.later x.below).cell 3 _ rfl
  have HS := Lib.hid (show ∀ X : Ext V6, Calls Tryz.prog 16 #[.agg #[.bool true, .string ⟨#[]⟩, .slice g 2 cap], .agg #[.bool true, .string ⟨#[]⟩, .slice g2 2 cap2]] X.w fun e w'' => e = .returned (.bool true) ∧ ∃ y : Ext V6, w'' = y.w from fun X => (c_same _ _ X.w (hX.out.later X.below) (hY.out.later X.below)).mono fun _ w' ⟨he, hb⟩ => ⟨he, ⟨w', X.2.trans (hb.mono X.2.size)⟩, rfl⟩)
  have HR := Lib.hid (show ∀ X : Ext V6, Calls Tryz.prog 14 #[.agg #[.bool true, .string ⟨#[]⟩, .slice g 2 cap]] X.w fun e w'' => e = .returned (.bool true) ∧ ∃ y : Ext V6, w'' = y.w from fun X => (c_rightx _ X.w (hX.out.later X.below)).mono fun _ w' ⟨he, hb⟩ => ⟨he, ⟨w', X.2.trans (hb.mono X.2.size)⟩, rfl⟩)
  clear hX hY L1 L4 L16 hT
  try simp only [List.append]
  refine wp_region_quick (C := Grows V6) (by kernel_rfl) (by kernel_rfl) (by kernel_rfl) (grows_refl V6) ?_
  repeat (go_big_quiet_step (first | (with_reducible exact Ret.at d_of.out _) | (with_reducible exact Ret.at d_num.out _) | (with_reducible exact Ret.at d_not.out _) | (with_reducible exact HS.out _) | (with_reducible exact HR.out _)))
  refine wpQuiet_nil ?_
  rintro _ ⟨x, rfl⟩
  go_wp2
  go_ret
  exact ⟨rfl, Q.out.trans (x.below.mono Q.out.size)⟩
end Go.Proofs.YtbbpmcebakckaaaGreatDoor
