/- The document's own ints, bytes and texts of words. For every word, and every text that is not beyond the model's reach. -/
import Derived.Test.YtnlcllhjhbaigaaDoorRefD
import Derived.Test.YtnlcllhjhbaigaaDoorBytN
namespace Go.Proofs.YtnlcllhjhbaigaaDoor
open Go Go.RowKit Go.Shelf
attribute [local go_sem] Oper.semAt_some Grows wide_fn

/-! ### Int -/
set_option maxRecDepth 100000 in
set_option maxHeartbeats 1000000 in
theorem refInt_ret (a : Nat) (ha : W256 a) : Ret Tryd.prog 59 #[wv a] (intV a) := by
  intro w
  have hn := num_lim a ha
  have l0 := lim_u64 a 0
  have l1 := lim_u64 a 1
  have l2 := lim_u64 a 2
  have l3 := lim_u64 a 3
  unfold U64 at l0 l1 l2 l3
  unfold num at hn
  obtain ⟨p0, q0⟩ := l0
  obtain ⟨p1, q1⟩ := l1
  obtain ⟨p2, q2⟩ := l2
  obtain ⟨p3, q3⟩ := l3
  unfold wv
  have HB := Lib.hid ((Below.refl _ w).alloc (Nat.le_refl _) (.cells #[.int .u64 (lim a 0), .int .u64 (lim a 1), .int .u64 (lim a 2), .int .u64 (lim a 3)] 24))
  by_cases c1 : 0 < lim a 1
  · have e : intV a = .tuple #[.int .i64 0, .bool false] := by unfold intV maxI; rw [if_neg (by omega)]
    rw [e]
    clear hn e ha
    generalize lim a 0 = z0 at *; generalize lim a 1 = z1 at *; generalize lim a 2 = z2 at *; generalize lim a 3 = z3 at *
    go_enter Tryd.func59, Tryd.ntmps59
    go_wp2
    go_ret2
    exact ⟨rfl, HB.out⟩
  · by_cases c2 : 0 < lim a 2
    · have e : intV a = .tuple #[.int .i64 0, .bool false] := by unfold intV maxI; rw [if_neg (by omega)]
      rw [e]
      clear hn e ha
      generalize lim a 0 = z0 at *; generalize lim a 1 = z1 at *; generalize lim a 2 = z2 at *; generalize lim a 3 = z3 at *
      go_enter Tryd.func59, Tryd.ntmps59
      go_wp2
      go_ret2
      exact ⟨rfl, HB.out⟩
    · by_cases c3 : 0 < lim a 3
      · have e : intV a = .tuple #[.int .i64 0, .bool false] := by unfold intV maxI; rw [if_neg (by omega)]
        rw [e]
        clear hn e ha
        generalize lim a 0 = z0 at *; generalize lim a 1 = z1 at *; generalize lim a 2 = z2 at *; generalize lim a 3 = z3 at *
        go_enter Tryd.func59, Tryd.ntmps59
        go_wp2
        go_ret2
        exact ⟨rfl, HB.out⟩
      · by_cases c0 : 4611686018427387903 < lim a 0
        · have e : intV a = .tuple #[.int .i64 0, .bool false] := by unfold intV maxI; rw [if_neg (by omega)]
          rw [e]
          clear hn e ha
          generalize lim a 0 = z0 at *; generalize lim a 1 = z1 at *; generalize lim a 2 = z2 at *; generalize lim a 3 = z3 at *
          go_enter Tryd.func59, Tryd.ntmps59
          go_wp2
          go_ret2
          exact ⟨rfl, HB.out⟩
        · have e : intV a = .tuple #[.int .i64 (lim a 0), .bool true] := by
            unfold intV maxI
            rw [if_pos (by omega), show (a : Int) = lim a 0 by omega]
          rw [e]
          clear hn e ha
          generalize lim a 0 = z0 at *; generalize lim a 1 = z1 at *; generalize lim a 2 = z2 at *; generalize lim a 3 = z3 at *
          go_enter Tryd.func59, Tryd.ntmps59
          go_wp2
          go_ret2
          exact ⟨rfl, HB.out⟩

/-! ### Bytes -/
def bytV (a n : Nat) : List Value := (List.range n).map fun j => Value.int .u8 (dg a (31 - j) : Int)
theorem bytV_succ (a n : Nat) : bytV a (n + 1) = bytV a n ++ [.int .u8 (dg a (31 - n) : Int)] := by simp [bytV, List.range_succ]
theorem row_ints {w : World} {g n base : Nat} {d : Nat → Int} {e : TypeId} {size : Nat} {v : Value} {k : Nat} {xs : List Value} (h : w.ownsRow base e size v k xs) (_hx : IntsAt w g n d) (hg : g < base) : some g ≠ v.ownBlock := fun e1 => by
  have := h.lt g e1.symm
  omega
theorem bytes_back (a : Nat) : (⟨((byteL a).map UInt8.ofNat).toArray⟩ : ByteArray) = bytesOf a := by
  have h := bytesOf_list a
  cases hb : bytesOf a with
  | mk data =>
    rw [hb] at h
    simp only [] at h
    rw [← h]

set_option maxRecDepth 100000 in
set_option maxHeartbeats 2000000 in
theorem refBytes_ret (a : Nat) : Ret Tryd.prog 33 #[wv a] (.string (bytesOf a)) := by
  intro w
  have B0 := (Below.refl _ w).alloc (Nat.le_refl _) (.cells #[.int .u64 (lim a 0), .int .u64 (lim a 1), .int .u64 (lim a 2), .int .u64 (lim a 3)] 24)
  have s0 : w.heap.size + 1 ≤ (w.alloc (.cells #[.int .u64 (lim a 0), .int .u64 (lim a 1), .int .u64 (lim a 2), .int .u64 (lim a 3)] 24)).heap.size := by simp
  have DA := digits_any a
  unfold wv at DA ⊢
  go_enter Tryd.func33, Tryd.ntmps33
  go_wp2_with fail
  obtain ⟨W0, hW0⟩ : ∃ W0, w.alloc (.cells #[.int .u64 (lim a 0), .int .u64 (lim a 1), .int .u64 (lim a 2), .int .u64 (lim a 3)] 24) = W0 := ⟨_, rfl⟩
  rw [hW0] at B0 s0 ⊢
  clear hW0
  refine (DA _).mono ?_
  rintro e w1 ⟨g, cap, rfl, hg, X1, q⟩
  have B1 := B0.trans (q.mono B0.size)
  have hgl := X1.lt
  have R0 := World.ownsRow_nil w1 w1.heap.size 5 1
  have hs1 : w.heap.size ≤ w1.heap.size := B1.size
  clear q B0 DA s0 hg
  go_wp2
  go_loopw [4, 5] (fun t i wr => ∃ (z : Int) (k : Nat), i = .int .i64 z ∧ k ≤ 32 ∧ z = 31 - (k : Int) ∧ wr.ownsRow w1.heap.size 5 1 t k (bytV a k) ∧ IntsAt wr g 32 (fun j => (dg a j : Int)) ∧ Below w.heap.size w wr ∧ w1.heap.size ≤ wr.heap.size) (fun _ i _ => (intOf i + 1).toNat)
  case atStart => exact ⟨31, 0, rfl, by omega, by omega, R0, X1, B1, Nat.le_refl _⟩
  case round =>
    obtain ⟨z, k, rfl, hk, hz, hown, xx, hB, hsz⟩ := hrel
    clear R0 X1 B1
    by_cases hlt : k < 32
    · obtain ⟨i, hi⟩ : ∃ i : Nat, z = i := ⟨31 - k, by omega⟩
      subst hi
      have hik : i = 31 - k := by omega
      have hi0 : (0 : Int) ≤ (i : Int) := by omega
      have hi9 : (i : Int) < 32 := by omega
      have cd := xx.cell (j := i) (by omega)
      have db := dg_lt a i
      have HV := Lib.hid (bytV_succ a k)
      rw [← hik] at HV
      have HK := Lib.hid hlt
      have HIK := Lib.hid hik
      have HX := Lib.hid xx
      have HO := Lib.hid hown
      have HB := Lib.hid hB
      have HZ := Lib.hid hsz
      have b0 : (0 : Int) ≤ (dg a i : Int) := by omega
      have b1 : (dg a i : Int) < 256 := by omega
      obtain ⟨i0, hi, hz0, hz1, hz2⟩ := info_parts infoB
      clear hk hz hlt hik hown xx hB hsz db
      generalize (dg a i : Int) = b at *
      go_wp2_with (at_builtin; refine wpList_append_own _ rfl _ _ 34 rfl w1.heap.size 5 i0 (.int .u8 0) 1 1 Tryd.underlying34 hi hz0 hz1 hz2 rfl (by decide) _ _ _ rfl (HO.out.alloc _) ⟨wr.heap.size, 0, none⟩ 1 1 [.int .u8 b] rfl rfl (cell_one _ _ _) (by simp [Value.oneCell']) (by unfold maxLen; have := HK.out; omega) (by have := HK.out; omega) (by have := HZ.out; simp; omega) ?_; intro v' w3 hown' hgrow hnil)
      clear hi hz0 hz1 hz2
      go_wp2
      go_roundw
      case rel =>
        have hxs3 := hgrow.size
        have hzz := HZ.out
        refine ⟨(i : Int) - 1, k + 1, by simp, HK.out, by have := HIK.out; have := HK.out; omega, ?_, ?_, ?_, by simp at hxs3; omega⟩
        · rw [HV.out]; exact hown'
        · exact (HX.out.alloc _).kept hgrow (fun e => by have := (HO.out.alloc (.cells #[.int .u8 b] 5)).lt _ e.symm; omega)
        · exact (HB.out.alloc (by omega) _).grown hgrow (by simp; omega) (fun j e => by have := (HO.out.alloc (.cells #[.int .u8 b] 5)).lt j e; omega)
      case measure => first | (simp [intOf]; done) | (simp [intOf]; omega)
    · obtain rfl : k = 32 := by omega
      obtain rfl : z = -1 := by omega
      obtain ⟨g', cap', rfl⟩ := ownsRow_succ (k := 31) hown
      have hback : (convert 34 9 (.slice (some ⟨g', 0, none⟩) 32 cap')).run Tryd.prog wr = .ok (.string (bytesOf a)) wr := by
        have hl : ((byteL a).map UInt8.ofNat).length = 32 := by simp [byteL]
        have h := run_convert_bytes_back (P := Tryd.prog) wr 34 9 5 ⟨g', 0, none⟩ cap' ((byteL a).map UInt8.ofNat) Tryd.underlying34 Tryd.underlying5 Tryd.underlying9 (fun j hj => by
          have hj2 : j < 32 := by omega
          have hcell := hown.cells (g := g') rfl j (.int .u8 (dg a (31 - j) : Int)) (by simp [bytV, hj2])
          rw [hcell]
          congr 2
          have hgt : ((byteL a).map UInt8.ofNat)[j] = UInt8.ofNat (byteN a (31 - j)) := by simp [byteL]
          refine Eq.trans ?_ (congrArg (fun c : UInt8 => (c.toNat : Int)) hgt).symm
          show (dg a (31 - j) : Int) = ((UInt8.ofNat (byteN a (31 - j))).toNat : Int)
          rw [UInt8.toNat_ofNat', Nat.mod_eq_of_lt (show byteN a (31 - j) < 2 ^ 8 from byteN_lt a _)]
          rfl)
        rw [hl, bytes_back] at h
        exact h
      have HB := Lib.hid hB
      clear hk hz hlt hown xx hB hsz
      go_wp2
      go_ret
      exact ⟨rfl, HB.out⟩

end Go.Proofs.YtnlcllhjhbaigaaDoor
