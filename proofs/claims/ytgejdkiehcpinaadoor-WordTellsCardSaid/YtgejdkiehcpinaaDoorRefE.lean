/- The document's own ints, bytes and texts of words. For every word, and every text that is not beyond the model's reach. -/
import Derived.Test.YtgejdkiehcpinaaDoorRefD
import Derived.Test.YtgejdkiehcpinaaDoorLawO
namespace Go.Proofs.YtgejdkiehcpinaaDoor
open Go Go.RowKit Go.Shelf
attribute [local go_sem] Oper.semAt_some Grows wide_fn

/-! ### Int -/
set_option maxRecDepth 100000 in
set_option maxHeartbeats 1000000 in
theorem refInt_ret (a : Nat) (ha : W256 a) : Ret Tryd.prog 20 #[wv a] (intV a) := by
  intro w
  have hn := num_lim a ha
  have l0 := lim_u64 a 0
  have l1 := lim_u64 a 1
  have l2 := lim_u64 a 2
  have l3 := lim_u64 a 3
  unfold U64 at l0 l1 l2 l3
  unfold num at hn
  obtain ⟨p0, q0⟩ := l0
  obtain ⟨p1, q1⟩ := l1
  obtain ⟨p2, q2⟩ := l2
  obtain ⟨p3, q3⟩ := l3
  unfold wv
  have HB := Lib.hid ((Below.refl _ w).alloc (Nat.le_refl _) (.cells #[.int .u64 (lim a 0), .int .u64 (lim a 1), .int .u64 (lim a 2), .int .u64 (lim a 3)] 24))
  by_cases c1 : 0 < lim a 1
  · have e : intV a = .tuple #[.int .i64 0, .bool false] := by unfold intV maxI; rw [if_neg (by omega)]
    rw [e]
    clear hn e ha
    generalize lim a 0 = z0 at *; generalize lim a 1 = z1 at *; generalize lim a 2 = z2 at *; generalize lim a 3 = z3 at *
    go_enter Tryd.func20, Tryd.ntmps20
    go_wp2
    go_ret2
    exact ⟨rfl, HB.out⟩
  · by_cases c2 : 0 < lim a 2
    · have e : intV a = .tuple #[.int .i64 0, .bool false] := by unfold intV maxI; rw [if_neg (by omega)]
      rw [e]
      clear hn e ha
      generalize lim a 0 = z0 at *; generalize lim a 1 = z1 at *; generalize lim a 2 = z2 at *; generalize lim a 3 = z3 at *
      go_enter Tryd.func20, Tryd.ntmps20
      go_wp2
      go_ret2
      exact ⟨rfl, HB.out⟩
    · by_cases c3 : 0 < lim a 3
      · have e : intV a = .tuple #[.int .i64 0, .bool false] := by unfold intV maxI; rw [if_neg (by omega)]
        rw [e]
        clear hn e ha
        generalize lim a 0 = z0 at *; generalize lim a 1 = z1 at *; generalize lim a 2 = z2 at *; generalize lim a 3 = z3 at *
        go_enter Tryd.func20, Tryd.ntmps20
        go_wp2
        go_ret2
        exact ⟨rfl, HB.out⟩
      · by_cases c0 : 4611686018427387903 < lim a 0
        · have e : intV a = .tuple #[.int .i64 0, .bool false] := by unfold intV maxI; rw [if_neg (by omega)]
          rw [e]
          clear hn e ha
          generalize lim a 0 = z0 at *; generalize lim a 1 = z1 at *; generalize lim a 2 = z2 at *; generalize lim a 3 = z3 at *
          go_enter Tryd.func20, Tryd.ntmps20
          go_wp2
          go_ret2
          exact ⟨rfl, HB.out⟩
        · have e : intV a = .tuple #[.int .i64 (lim a 0), .bool true] := by
            unfold intV maxI
            rw [if_pos (by omega), show (a : Int) = lim a 0 by omega]
          rw [e]
          clear hn e ha
          generalize lim a 0 = z0 at *; generalize lim a 1 = z1 at *; generalize lim a 2 = z2 at *; generalize lim a 3 = z3 at *
          go_enter Tryd.func20, Tryd.ntmps20
          go_wp2
          go_ret2
          exact ⟨rfl, HB.out⟩

/-! ### Bytes -/
def bytV (a n : Nat) : List Value := (List.range n).map fun j => Value.int .u8 (dg a (31 - j) : Int)
theorem bytV_succ (a n : Nat) : bytV a (n + 1) = bytV a n ++ [.int .u8 (dg a (31 - n) : Int)] := by simp [bytV, List.range_succ]
theorem row_ints {w : World} {g n base : Nat} {d : Nat → Int} {e : TypeId} {size : Nat} {v : Value} {k : Nat} {xs : List Value} (h : w.ownsRow base e size v k xs) (_hx : IntsAt w g n d) (hg : g < base) : some g ≠ v.ownBlock := fun e1 => by
  have := h.lt g e1.symm
  omega
theorem bytes_back (a : Nat) : (⟨((byteL a).map UInt8.ofNat).toArray⟩ : ByteArray) = bytesOf a := by
  have h := bytesOf_list a
  cases hb : bytesOf a with
  | mk data =>
    rw [hb] at h
    simp only [] at h
    rw [← h]

set_option maxRecDepth 100000 in
set_option maxHeartbeats 2000000 in
theorem refBytes_ret (a : Nat) : Ret Tryd.prog 22 #[wv a] (.string (bytesOf a)) := by
  intro w
  have B0 := (Below.refl _ w).alloc (Nat.le_refl _) (.cells #[.int .u64 (lim a 0), .int .u64 (lim a 1), .int .u64 (lim a 2), .int .u64 (lim a 3)] 24)
  have s0 : w.heap.size + 1 ≤ (w.alloc (.cells #[.int .u64 (lim a 0), .int .u64 (lim a 1), .int .u64 (lim a 2), .int .u64 (lim a 3)] 24)).heap.size := by simp
  have DA := digits_any a
  unfold wv at DA ⊢
  go_enter Tryd.func22, Tryd.ntmps22
  go_wp2_with fail
  obtain ⟨W0, hW0⟩ : ∃ W0, w.alloc (.cells #[.int .u64 (lim a 0), .int .u64 (lim a 1), .int .u64 (lim a 2), .int .u64 (lim a 3)] 24) = W0 := ⟨_, rfl⟩
  rw [hW0] at B0 s0 ⊢
  clear hW0
  refine (DA _).mono ?_
  rintro e w1 ⟨g, cap, rfl, hg, X1, q⟩
  have B1 := B0.trans (q.mono B0.size)
  have hgl := X1.lt
  have R0 := World.ownsRow_nil w1 w1.heap.size 5 1
  have hs1 : w.heap.size ≤ w1.heap.size := B1.size
  clear q B0 DA s0 hg
  go_wp2
  go_loopw [4, 5] (fun t i wr => ∃ (z : Int) (k : Nat), i = .int .i64 z ∧ k ≤ 32 ∧ z = 31 - (k : Int) ∧ wr.ownsRow w1.heap.size 5 1 t k (bytV a k) ∧ IntsAt wr g 32 (fun j => (dg a j : Int)) ∧ Below w.heap.size w wr ∧ w1.heap.size ≤ wr.heap.size) (fun _ i _ => (intOf i + 1).toNat)
  case atStart => exact ⟨31, 0, rfl, by omega, by omega, R0, X1, B1, Nat.le_refl _⟩
  case round =>
    obtain ⟨z, k, rfl, hk, hz, hown, xx, hB, hsz⟩ := hrel
    clear R0 X1 B1
    by_cases hlt : k < 32
    · obtain ⟨i, hi⟩ : ∃ i : Nat, z = i := ⟨31 - k, by omega⟩
      subst hi
      have hik : i = 31 - k := by omega
      have hi0 : (0 : Int) ≤ (i : Int) := by omega
      have hi9 : (i : Int) < 32 := by omega
      have cd := xx.cell (j := i) (by omega)
      have db := dg_lt a i
      have HV := Lib.hid (bytV_succ a k)
      rw [← hik] at HV
      have HK := Lib.hid hlt
      have HIK := Lib.hid hik
      have HX := Lib.hid xx
      have HO := Lib.hid hown
      have HB := Lib.hid hB
      have HZ := Lib.hid hsz
      have b0 : (0 : Int) ≤ (dg a i : Int) := by omega
      have b1 : (dg a i : Int) < 256 := by omega
      obtain ⟨i0, hi, hz0, hz1, hz2⟩ := info_parts infoB
      clear hk hz hlt hik hown xx hB hsz db
      generalize (dg a i : Int) = b at *
      go_wp2_with (at_builtin; refine wpList_append_own _ rfl _ _ 61 rfl w1.heap.size 5 i0 (.int .u8 0) 1 1 Tryd.underlying61 hi hz0 hz1 hz2 rfl (by decide) _ _ _ rfl (HO.out.alloc _) ⟨wr.heap.size, 0, none⟩ 1 1 [.int .u8 b] rfl rfl (cell_one _ _ _) (by simp [Value.oneCell']) (by unfold maxLen; have := HK.out; omega) (by have := HK.out; omega) (by have := HZ.out; simp; omega) ?_; intro v' w3 hown' hgrow hnil)
      clear hi hz0 hz1 hz2
      go_wp2
      go_roundw
      case rel =>
        have hxs3 := hgrow.size
        have hzz := HZ.out
        refine ⟨(i : Int) - 1, k + 1, by simp, HK.out, by have := HIK.out; have := HK.out; omega, ?_, ?_, ?_, by simp at hxs3; omega⟩
        · rw [HV.out]; exact hown'
        · exact (HX.out.alloc _).kept hgrow (fun e => by have := (HO.out.alloc (.cells #[.int .u8 b] 5)).lt _ e.symm; omega)
        · exact (HB.out.alloc (by omega) _).grown hgrow (by simp; omega) (fun j e => by have := (HO.out.alloc (.cells #[.int .u8 b] 5)).lt j e; omega)
      case measure => first | (simp [intOf]; done) | (simp [intOf]; omega)
    · obtain rfl : k = 32 := by omega
      obtain rfl : z = -1 := by omega
      obtain ⟨g', cap', rfl⟩ := ownsRow_succ (k := 31) hown
      have hback : (convert 61 9 (.slice (some ⟨g', 0, none⟩) 32 cap')).run Tryd.prog wr = .ok (.string (bytesOf a)) wr := by
        have hl : ((byteL a).map UInt8.ofNat).length = 32 := by simp [byteL]
        have h := run_convert_bytes_back (P := Tryd.prog) wr 61 9 5 ⟨g', 0, none⟩ cap' ((byteL a).map UInt8.ofNat) Tryd.underlying61 Tryd.underlying5 Tryd.underlying9 (fun j hj => by
          have hj2 : j < 32 := by omega
          have hcell := hown.cells (g := g') rfl j (.int .u8 (dg a (31 - j) : Int)) (by simp [bytV, hj2])
          rw [hcell]
          congr 2
          have hgt : ((byteL a).map UInt8.ofNat)[j] = UInt8.ofNat (byteN a (31 - j)) := by simp [byteL]
          refine Eq.trans ?_ (congrArg (fun c : UInt8 => (c.toNat : Int)) hgt).symm
          show (dg a (31 - j) : Int) = ((UInt8.ofNat (byteN a (31 - j))).toNat : Int)
          rw [UInt8.toNat_ofNat', Nat.mod_eq_of_lt (show byteN a (31 - j) < 2 ^ 8 from byteN_lt a _)]
          rfl)
        rw [hl, bytes_back] at h
        exact h
      have HB := Lib.hid hB
      clear hk hz hlt hown xx hB hsz
      go_wp2
      go_ret
      exact ⟨rfl, HB.out⟩

/-! ### FromBytes -/
/-- Digit j of a text, from its end. -/
def bd (l : List UInt8) (j : Nat) : Int := if j < l.length then ((l.reverse.getD j 0).toNat : Int) else 0
theorem bd_range (l : List UInt8) (j : Nat) : 0 ≤ bd l j ∧ bd l j < 256 := by
  unfold bd
  split
  · have := (l.reverse.getD j 0).toNat_lt; constructor <;> omega
  · constructor <;> omega
theorem bd_val (l : List UInt8) : valI (bd l) l.length = (octVal 0 l : Int) := by
  induction l with
  | nil => rfl
  | cons c r ih =>
    have e : valI (bd (c :: r)) r.length = valI (bd r) r.length := valI_congr _ _ _ (fun j hj => by
      unfold bd
      rw [if_pos (by simp; omega), if_pos hj]
      congr 2
      simp only [List.reverse_cons]
      rw [List.getD_eq_getElem?_getD, List.getD_eq_getElem?_getD, List.getElem?_append_left (by simpa using hj)])
    rw [List.length_cons, valI, e, ih]
    have e2 : bd (c :: r) r.length = (c.toNat : Int) := by
      unfold bd
      rw [if_pos (by simp)]
      simp only [List.reverse_cons]
      rw [List.getD_eq_getElem?_getD, List.getElem?_append_right (by simp)]
      simp
    rw [e2]
    show _ = ((octVal (0 * 256 + c.toNat) r : Nat) : Int)
    rw [octVal_from r (0 * 256 + c.toNat), Nat.zero_mul, Nat.zero_add, Int.natCast_add, Int.natCast_mul, Int.natCast_pow, show ((256 : Nat) : Int) = 256 from rfl]
    omega
theorem valI_more (d : Nat → Int) (n : Nat) (hz : ∀ j, n ≤ j → d j = 0) : ∀ m, n ≤ m → valI d m = valI d n
  | 0, h => by obtain rfl : n = 0 := by omega
               rfl
  | m + 1, h => by
    by_cases e : n = m + 1
    · rw [e]
    · rw [valI, hz m (by omega), valI_more d n hz m (by omega)]
      omega
theorem bd_last (l : List UInt8) : (valI (bd (l.drop (l.length - 32))) 32).toNat = fromB l := by
  have h1 := bd_val (l.drop (l.length - 32))
  have h2 := valI_more (bd (l.drop (l.length - 32))) (l.drop (l.length - 32)).length (fun j hj => if_neg (by omega)) 32 (by rw [List.length_drop]; omega)
  rw [h2, h1]
  rfl
theorem bd_at (s : ByteArray) (k i : Nat) (hk : k < 32) (hi : i + k + 1 = s.size) : bd (s.data.toList.drop (s.data.toList.length - 32)) k = ((s[i]'(by omega)).toNat : Int) := by
  have hl : s.data.toList.length = s.size := by simp
  unfold bd
  rw [if_pos (by rw [List.length_drop]; omega)]
  congr 2
  rw [List.getD_eq_getElem?_getD, List.getElem?_reverse (by rw [List.length_drop]; omega), List.length_drop, List.getElem?_drop, hl, show s.size - 32 + (s.size - (s.size - 32) - 1 - k) = i by omega, List.getElem?_eq_getElem (by omega)]
  rfl
theorem row_form {w : World} {base : Nat} {e : TypeId} {size : Nat} {v : Value} {n : Nat} {xs : List Value} (h : w.ownsRow base e size v n xs) : ∃ o cap, v = .slice o n cap := by
  rcases h.2 with ⟨rfl, rfl⟩ | ⟨g, cap, cur, rfl, _⟩
  · exact ⟨none, 0, rfl⟩
  · exact ⟨_, _, rfl⟩
def bdV (l : List UInt8) (n : Nat) : List Value := (List.range n).map fun j => Value.int .i64 (bd l j)
theorem bdV_succ (l : List UInt8) (n : Nat) : bdV l (n + 1) = bdV l n ++ [.int .i64 (bd l n)] := by simp [bdV, List.range_succ]

theorem fromDigits_nil (d : Nat → Int) (hz : ∀ j, 0 ≤ j → d j = 0) (c : Nat) (w : World) :
    Calls Tryd.prog 36 #[.slice none 0 c] w fun e w' => e = .returned (wv (valI d 32).toNat) ∧ Below w.heap.size w w' := by
  have e0 : (valI d 32).toNat = 0 := by
    rw [valI_congr d (fun _ => 0) 32 (fun j _ => hz j (Nat.zero_le j)), valI_zero]; rfl
  rw [e0, show wv 0 = .agg #[.int .u64 0, .int .u64 0, .int .u64 0, .int .u64 0] from wv_of ⟨by decide, by decide, by decide, by decide⟩]
  have A1 := (Arr4.mk0' w 24).alloc (.cells #[.int .u64 0, .int .u64 0, .int .u64 0, .int .u64 0] 24)
  have A2 := Arr4.mk0' (w.alloc (.cells #[.int .u64 0, .int .u64 0, .int .u64 0, .int .u64 0] 24)) 24
  have B0 := ((Below.refl _ w).alloc (Nat.le_refl _) (.cells #[.int .u64 0, .int .u64 0, .int .u64 0, .int .u64 0] 24)).alloc (by simp) (.cells #[.int .u64 0, .int .u64 0, .int .u64 0, .int .u64 0] 24)
  rw [World.size_alloc] at A2
  go_enter Tryd.func36, Tryd.ntmps36
  go_wp2
  obtain ⟨W0, hW0⟩ : ∃ W0, (w.alloc (.cells #[.int .u64 0, .int .u64 0, .int .u64 0, .int .u64 0] 24)).alloc (.cells #[.int .u64 0, .int .u64 0, .int .u64 0, .int .u64 0] 24) = W0 := ⟨_, rfl⟩
  rw [hW0] at A1 A2 B0 ⊢
  clear hW0 e0
  go_loopw [4] (fun i wr => i = .int .i64 (-1) ∧ Arr4 wr w.heap.size 24 (fun _ => 0) ∧ Arr4 wr (w.heap.size + 1) 24 (fun _ => 0) ∧ Below w.heap.size w wr) (fun i _ => 0)
  case atStart => exact ⟨rfl, A1, A2, B0⟩
  case round =>
    obtain ⟨rfl, a1, a2, hB⟩ := hrel
    clear A1 A2 B0
    have c0 := a2.cell (j := 0) (by omega)
    have c1 := a2.cell (j := 1) (by omega)
    have c2 := a2.cell (j := 2) (by omega)
    have c3 := a2.cell (j := 3) (by omega)
    have f0 := a1.frozen 0
    have f1 := a1.frozen 1
    have f2 := a1.frozen 2
    have f3 := a1.frozen 3
    have d0 := a1.cell (j := 0) (by omega)
    have d1 := a1.cell (j := 1) (by omega)
    have d2 := a1.cell (j := 2) (by omega)
    have d3 := a1.cell (j := 3) (by omega)
    have HA1 := Lib.hid a1
    have HB := Lib.hid hB
    clear a1 a2 hB
    go_wp2
    refine bodyPost_ret (results_word rfl rfl (HA1.out.store (fun _ => 0))) rfl ⟨rfl, ?_⟩
    exact (((HB.out.setCell (p := ⟨w.heap.size, 0, none⟩) (by simp) _).setCell (p := ⟨w.heap.size, 1, none⟩) (by simp) _).setCell (p := ⟨w.heap.size, 2, none⟩) (by simp) _).setCell (p := ⟨w.heap.size, 3, none⟩) (by simp) _

set_option maxRecDepth 100000 in
set_option maxHeartbeats 4000000 in
theorem refFromBytes_ret (s : ByteArray) (hs : s.size ≤ 140737488355328) : Ret Tryd.prog 31 #[.string s] (wv (fromB s.data.toList)) := by
  intro w
  have hl : s.data.toList.length = s.size := by simp
  have HL := Lib.hid (bd_last s.data.toList)
  have HAT := Lib.hid (fun k i (hk : k < 32) (hi : i + k + 1 = s.size) => bd_at s k i hk hi)
  have HBR := Lib.hid (bd_range (s.data.toList.drop (s.data.toList.length - 32)))
  have HBZ : Hid (∀ j, min s.size 32 ≤ j → bd (s.data.toList.drop (s.data.toList.length - 32)) j = 0) := fun j hj => if_neg (by rw [List.length_drop]; omega)
  generalize bd (s.data.toList.drop (s.data.toList.length - 32)) = d at *
  generalize fromB s.data.toList = N at *
  clear hl
  have A0 := Arr4.mk0' w 24
  have B0 := (Below.refl _ w).alloc (Nat.le_refl _) (.cells #[.int .u64 0, .int .u64 0, .int .u64 0, .int .u64 0] 24)
  have s0 : w.heap.size + 1 ≤ (w.alloc (.cells #[.int .u64 0, .int .u64 0, .int .u64 0, .int .u64 0] 24)).heap.size := by simp
  have R0 := World.ownsRow_nil (w.alloc (.cells #[.int .u64 0, .int .u64 0, .int .u64 0, .int .u64 0] 24)) (w.heap.size + 1) 3 1
  have hsI : (s.size : Int) ≤ 140737488355328 := by omega
  have hsI0 : (0 : Int) ≤ (s.size : Int) := by omega
  go_enter Tryd.func31, Tryd.ntmps31
  go_wp2
  obtain ⟨W0, hW0⟩ : ∃ W0, w.alloc (.cells #[.int .u64 0, .int .u64 0, .int .u64 0, .int .u64 0] 24) = W0 := ⟨_, rfl⟩
  rw [hW0] at A0 B0 s0 R0 ⊢
  clear hW0
  go_loopw [3, 4] (fun t i wr => ∃ (z : Int) (k : Nat), i = .int .i64 z ∧ k ≤ 32 ∧ k ≤ s.size ∧ z = (s.size : Int) - 1 - (k : Int) ∧ wr.ownsRow (w.heap.size + 1) 3 1 t k ((List.range k).map fun j => Value.int .i64 (d j)) ∧ Arr4 wr w.heap.size 24 (fun _ => 0) ∧ Below w.heap.size w wr ∧ w.heap.size + 1 ≤ wr.heap.size) (fun _ i _ => (intOf i + 1).toNat)
  case atStart => exact ⟨_, 0, rfl, by omega, by omega, by simp, R0, A0, B0, s0⟩
  case round =>
    obtain ⟨z, k, rfl, hk, hks, hz, hown, aa, hB, hsz⟩ := hrel
    clear R0 A0 B0 s0
    obtain ⟨o, cap, rfl⟩ := row_form hown
    by_cases hlt : k < s.size ∧ k < 32
    · obtain ⟨hlt1, hlt2⟩ := hlt
      obtain ⟨i, hi⟩ : ∃ i : Nat, z = i := ⟨s.size - 1 - k, by omega⟩
      subst hi
      have hik : i + k + 1 = s.size := by omega
      have hi0 : (0 : Int) ≤ (i : Int) := by omega
      have his : i < s.size := by omega
      have hiI : (i : Int) < (s.size : Int) := by omega
      have hkI : (k : Int) < 32 := by omega
      have hk0 : (0 : Int) ≤ (k : Int) := by omega
      have hat : d k = ((s[i]'his).toNat : Int) := HAT.out k i hlt2 hik
      have hb := s[i].toNat_lt
      have b0 : (0 : Int) ≤ (s[i].toNat : Int) := by omega
      have b1 : (s[i].toNat : Int) < 256 := by omega
      have HD := Lib.hid hat
      have HK := Lib.hid (And.intro hlt1 hlt2)
      have HIK := Lib.hid hik
      have HA := Lib.hid aa
      have HO := Lib.hid hown
      have HB := Lib.hid hB
      have HZ := Lib.hid hsz
      obtain ⟨i0, hi, hz0, hz1, hz2⟩ := info_parts infoI
      clear hk hks hz hlt1 hlt2 hik hown aa hB hsz hb hat
      go_wp2_with (at_builtin; refine wpList_append_own _ rfl _ _ 50 rfl (w.heap.size + 1) 3 i0 (.int .i64 0) 1 8 Tryd.underlying50 hi hz0 hz1 hz2 rfl (by decide) _ _ _ rfl (HO.out.alloc _) ⟨wr.heap.size, 0, none⟩ 1 1 [.int .i64 (s[i].toNat : Int)] rfl rfl (cell_one _ _ _) (by simp [Value.oneCell']) (by unfold maxLen; have := HK.out; omega) (by have := HK.out; omega) (by have := HZ.out; simp; omega) ?_; intro v' w3 hown' hgrow hnil)
      clear hi hz0 hz1 hz2
      go_wp2
      go_roundw
      case rel =>
        have hxs3 := hgrow.size
        have hzz := HZ.out
        have hltA := HA.out.lt
        refine ⟨(i : Int) - 1, k + 1, by simp, by have := HK.out; omega, by have := HK.out; omega, by have := HIK.out; omega, ?_, ?_, ?_, by simp at hxs3; omega⟩
        · rw [List.range_succ, List.map_append, List.map_cons, List.map_nil, HD.out]; exact hown'
        · exact (HA.out.alloc _).kept hgrow (fun e => by have := (HO.out.alloc (.cells #[.int .i64 (s[i].toNat : Int)] 3)).lt _ e.symm; omega)
        · exact (HB.out.alloc (by omega) _).grown hgrow (by simp; omega) (fun j e => by have := (HO.out.alloc (.cells #[.int .i64 (s[i].toNat : Int)] 3)).lt j e; omega)
      case measure => first | (simp [intOf]; done) | (simp [intOf]; omega)
    · have hm : k = min s.size 32 := by omega
      have DD : Calls Tryd.prog 36 #[.slice o k cap] wr fun e w' => e = .returned (wv N) ∧ Below wr.heap.size wr w' := by
        rw [← HL.out]
        rcases hown.2 with ⟨h1, h2⟩ | ⟨g, cap', cur, h1, hb, hg, _⟩
        · cases h1
          exact fromDigits_nil d (fun j _ => HBZ.out j (by omega)) 0 wr
        · cases h1
          have hx := IntsAt.of_row (d := d) hown (fun j hj => by simp [hj])
          exact fromDigits_any d HBR.out k g cap (by omega) (fun j hj => HBZ.out j (by omega)) wr hx.2
      have HA := Lib.hid aa
      have HB := Lib.hid hB
      have HDD := Lib.hid DD
      have hk0 : (0 : Int) ≤ (k : Int) := by omega
      unfold wv at HDD
      by_cases h32 : k = 32
      · subst h32
        by_cases hz1 : 0 ≤ z
        · clear hk hks hz hown aa hB hsz hlt hm DD
          go_wp2_with fail
          refine HDD.out.mono ?_
          rintro e w4 ⟨rfl, q⟩
          have a3 := HA.out.later' q
          have HB := Lib.hid (HB.out.trans (q.mono HB.out.size))
          clear q HDD HA
          have f0 := a3.frozen 0
          have f1 := a3.frozen 1
          have f2 := a3.frozen 2
          have f3 := a3.frozen 3
          have d0 := a3.cell (j := 0) (by omega)
          have d1 := a3.cell (j := 1) (by omega)
          have d2 := a3.cell (j := 2) (by omega)
          have d3 := a3.cell (j := 3) (by omega)
          have HA := Lib.hid a3
          clear a3
          go_wp2
          refine bodyPost_ret (results_word rfl rfl (HA.out.store _)) rfl ⟨rfl, ?_⟩
          exact (((HB.out.setCell (p := ⟨w.heap.size, 0, none⟩) (by simp) _).setCell (p := ⟨w.heap.size, 1, none⟩) (by simp) _).setCell (p := ⟨w.heap.size, 2, none⟩) (by simp) _).setCell (p := ⟨w.heap.size, 3, none⟩) (by simp) _
        · clear hk hks hz hown aa hB hsz hlt hm DD
          go_wp2_with fail
          refine HDD.out.mono ?_
          rintro e w4 ⟨rfl, q⟩
          have a3 := HA.out.later' q
          have HB := Lib.hid (HB.out.trans (q.mono HB.out.size))
          clear q HDD HA
          have f0 := a3.frozen 0
          have f1 := a3.frozen 1
          have f2 := a3.frozen 2
          have f3 := a3.frozen 3
          have d0 := a3.cell (j := 0) (by omega)
          have d1 := a3.cell (j := 1) (by omega)
          have d2 := a3.cell (j := 2) (by omega)
          have d3 := a3.cell (j := 3) (by omega)
          have HA := Lib.hid a3
          clear a3
          go_wp2
          refine bodyPost_ret (results_word rfl rfl (HA.out.store _)) rfl ⟨rfl, ?_⟩
          exact (((HB.out.setCell (p := ⟨w.heap.size, 0, none⟩) (by simp) _).setCell (p := ⟨w.heap.size, 1, none⟩) (by simp) _).setCell (p := ⟨w.heap.size, 2, none⟩) (by simp) _).setCell (p := ⟨w.heap.size, 3, none⟩) (by simp) _
      · obtain rfl : z = -1 := by omega
        clear hk hks hz hown aa hB hsz hlt hm DD h32
        go_wp2_with fail
        refine HDD.out.mono ?_
        rintro e w4 ⟨rfl, q⟩
        have a3 := HA.out.later' q
        have HB := Lib.hid (HB.out.trans (q.mono HB.out.size))
        clear q HDD HA
        have f0 := a3.frozen 0
        have f1 := a3.frozen 1
        have f2 := a3.frozen 2
        have f3 := a3.frozen 3
        have d0 := a3.cell (j := 0) (by omega)
        have d1 := a3.cell (j := 1) (by omega)
        have d2 := a3.cell (j := 2) (by omega)
        have d3 := a3.cell (j := 3) (by omega)
        have HA := Lib.hid a3
        clear a3
        go_wp2
        refine bodyPost_ret (results_word rfl rfl (HA.out.store _)) rfl ⟨rfl, ?_⟩
        exact (((HB.out.setCell (p := ⟨w.heap.size, 0, none⟩) (by simp) _).setCell (p := ⟨w.heap.size, 1, none⟩) (by simp) _).setCell (p := ⟨w.heap.size, 2, none⟩) (by simp) _).setCell (p := ⟨w.heap.size, 3, none⟩) (by simp) _
end Go.Proofs.YtgejdkiehcpinaaDoor
