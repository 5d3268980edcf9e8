/- ShaLeft: the walk, and the answer. -/
import Derived.Test.YtnjmhcooejcehaaDoorShaP
namespace Go.Proofs.YtnjmhcooejcehaaDoor
open Go Go.RowKit Go.Shelf
attribute [local go_sem] Oper.semAt_some Grows wide_fn eq4

set_option maxRecDepth 100000 in
set_option maxHeartbeats 4000000 in
theorem left_walk (s x h : ByteArray) (gas g c2 c4 : Int) (hsz : s.size ≤ 140737488355328) (hx1 : s.size ≤ 300 → x = s) (hx2 : 300 < s.size → s.extract 0 300 = x) (hxs : x.size ≤ 300) (hh : h.size = 32) (hg : 0 ≤ g ∧ g < 300) (hc2 : 0 ≤ c2 ∧ c2 ≤ 1000000000) (hc4 : 0 ≤ c4 ∧ c4 ≤ 1000000000)
    (h0 : RetT Tryd.prog 8 #[] (.bool true)) (hp : Ret Tryd.prog 9 #[.int .i64 gas, .int .i64 300] (.int .i64 g)) (o2 : Ret Tryd.prog 12 #[.int .i64 2] (W4 2 0 0 0)) (o4 : Ret Tryd.prog 12 #[.int .i64 4] (W4 4 0 0 0)) (g1 : RetT Tryd.prog 10 #[.string x] (.tuple #[.string h, .int .i64 0])) (k2 : Ret Tryd.prog 13 #[W4 2 0 0 0, .int .i64 (x.size : Int)] (.tuple #[.int .i64 c2, .bool true])) (k4 : Ret Tryd.prog 13 #[W4 4 0 0 0, .int .i64 (x.size : Int)] (.tuple #[.int .i64 c4, .bool true]))
    (ry2 : c2 ≤ g → RetT Tryd.prog 15 #[W4 2 0 0 0, .string x, .int .i64 g] (.tuple #[.string h, .int .i64 (g - c2), .bool true])) (rn2 : g < c2 → RetT Tryd.prog 15 #[W4 2 0 0 0, .string x, .int .i64 g] (.tuple #[.string ⟨#[]⟩, .int .i64 0, .bool false]))
    (ry4 : c4 ≤ g → RetT Tryd.prog 15 #[W4 4 0 0 0, .string x, .int .i64 g] (.tuple #[.string x, .int .i64 (g - c4), .bool true])) (rn4 : g < c4 → RetT Tryd.prog 15 #[W4 4 0 0 0, .string x, .int .i64 g] (.tuple #[.string ⟨#[]⟩, .int .i64 0, .bool false])) :
    RetT Tryd.prog 4 #[.string s, .int .i64 gas] (.bool true) := by
  intro w HT0
  have H0 := Lib.hid h0
  have HP := Lib.hid hp
  have O2 := Lib.hid o2
  have O4 := Lib.hid o4
  have G1 := Lib.hid g1
  have K2 := Lib.hid k2
  have K4 := Lib.hid k4
  have RY2 := Lib.hid ry2
  have RN2 := Lib.hid rn2
  have RY4 := Lib.hid ry4
  have RN4 := Lib.hid rn4
  have HX1 := Lib.hid hx1
  have HX2 := Lib.hid hx2
  clear h0 hp o2 o4 g1 k2 k4 ry2 rn2 ry4 rn4 hx1 hx2
  have HT := Lib.hid HT0
  have Q := Lib.hid (Below.refl w.heap.size w)
  clear HT0
  have hsI : (s.size : Int) ≤ 140737488355328 := by omega
  have hhI : (h.size : Int) = 32 := by omega
  have hxI : (x.size : Int) ≤ 300 := by omega
  obtain ⟨g0, g1⟩ := hg
  obtain ⟨c20, c21⟩ := hc2
  obtain ⟨c40, c41⟩ := hc4
  go_enter Tryd.func4, Tryd.ntmps4
  go_wp2_with fail
  refine (H0.out _ HT.out).mono ?_
  rintro e w1 ⟨rfl, q⟩
  replace HT := Lib.hid (HT.out.later q)
  replace Q := Lib.hid (Q.out.trans (q.mono Q.out.size))
  clear q
  by_cases hs : 300 < s.size
  · have hsc : (300 : Int) < (s.size : Int) := by omega
    have hcut := HX2.out hs
    clear HX1 HX2 hs hsz hxs hh
    go_wp2_with fail
    refine (HP.out _).mono ?_
    rintro e w2 ⟨rfl, q⟩
    replace HT := Lib.hid (HT.out.later q)
    replace Q := Lib.hid (Q.out.trans (q.mono Q.out.size))
    clear q
    go_wp2_with fail
    refine (G1.out _ HT.out).mono ?_
    rintro e w3 ⟨rfl, q⟩
    replace HT := Lib.hid (HT.out.later q)
    replace Q := Lib.hid (Q.out.trans (q.mono Q.out.size))
    clear q
    have HL := Lib.hid (Has.new w3 3 #[.int .i64 2, .int .i64 4])
    replace HT := Lib.hid (HT.out.alloc (.cells #[.int .i64 2, .int .i64 4] 3))
    have hq := Q.out.size
    replace Q := Lib.hid (Q.out.alloc Q.out.size (.cells #[.int .i64 2, .int .i64 4] 3))
    go_wp2_with fail
    obtain ⟨W0, hW0⟩ : ∃ W0, w3.alloc (.cells #[.int .i64 2, .int .i64 4] 3) = W0 := ⟨_, rfl⟩
    rw [hW0] at HL HT Q ⊢
    clear hW0 hq
    generalize w3.heap.size = B at *
    go_loopw [34] (fun i wr => ∃ k : Nat, k ≤ 2 ∧ i = .int .i64 (k : Int) ∧ Tab wr ∧ Has wr B 3 #[.int .i64 2, .int .i64 4] ∧ Below w.heap.size w wr) (fun i _ => 2 - (intOf i).toNat)
    case atStart => exact ⟨0, by omega, rfl, HT.out, HL.out, Q.out⟩
    case round =>
      clear HT HL Q
      obtain ⟨k, hk, rfl, HT, HL, Q⟩ := hrel
      replace HT := Lib.hid HT
      replace HL := Lib.hid HL
      replace Q := Lib.hid Q
      rcases (show k = 0 ∨ k = 1 ∨ k = 2 by omega) with rfl | rfl | rfl
      · have kd := HL.out.cell 0 _ rfl
        rcases Int.lt_or_le g c2 with hgc | hgc
        · have R := Lib.hid ((RN2).out hgc)
          clear RY2 RN2 RY4 RN4
          simp only [Int.cast_ofNat_Int]
          go_wp2_with fail
          refine (O2.out _).mono ?_
          rintro e w9 ⟨rfl, q⟩
          replace HT := Lib.hid (HT.out.later q)
          replace Q := Lib.hid (Q.out.trans (q.mono Q.out.size))
          replace HL := Lib.hid (HL.out.later q)
          clear q
          clear kd
          go_wp2_with fail
          refine (K2.out _).mono ?_
          rintro e w10 ⟨rfl, q⟩
          replace HT := Lib.hid (HT.out.later q)
          replace Q := Lib.hid (Q.out.trans (q.mono Q.out.size))
          replace HL := Lib.hid (HL.out.later q)
          clear q
          go_wp2_with fail
          refine (O2.out _).mono ?_
          rintro e w11 ⟨rfl, q⟩
          replace HT := Lib.hid (HT.out.later q)
          replace Q := Lib.hid (Q.out.trans (q.mono Q.out.size))
          replace HL := Lib.hid (HL.out.later q)
          clear q
          go_wp2_with fail
          refine (R.out _ HT.out).mono ?_
          rintro e w12 ⟨rfl, q⟩
          replace HT := Lib.hid (HT.out.later q)
          replace Q := Lib.hid (Q.out.trans (q.mono Q.out.size))
          replace HL := Lib.hid (HL.out.later q)
          clear q
          go_wp2
          go_roundw
          case rel => exact ⟨1, by omega, by simp, HT.out, HL.out, Q.out⟩
          case measure => simp [intOf]
        · have R := Lib.hid ((RY2).out hgc)
          clear RY2 RN2 RY4 RN4
          simp only [Int.cast_ofNat_Int]
          go_wp2_with fail
          refine (O2.out _).mono ?_
          rintro e w9 ⟨rfl, q⟩
          replace HT := Lib.hid (HT.out.later q)
          replace Q := Lib.hid (Q.out.trans (q.mono Q.out.size))
          replace HL := Lib.hid (HL.out.later q)
          clear q
          clear kd
          go_wp2_with fail
          refine (K2.out _).mono ?_
          rintro e w10 ⟨rfl, q⟩
          replace HT := Lib.hid (HT.out.later q)
          replace Q := Lib.hid (Q.out.trans (q.mono Q.out.size))
          replace HL := Lib.hid (HL.out.later q)
          clear q
          go_wp2_with fail
          refine (O2.out _).mono ?_
          rintro e w11 ⟨rfl, q⟩
          replace HT := Lib.hid (HT.out.later q)
          replace Q := Lib.hid (Q.out.trans (q.mono Q.out.size))
          replace HL := Lib.hid (HL.out.later q)
          clear q
          go_wp2_with fail
          refine (R.out _ HT.out).mono ?_
          rintro e w12 ⟨rfl, q⟩
          replace HT := Lib.hid (HT.out.later q)
          replace Q := Lib.hid (Q.out.trans (q.mono Q.out.size))
          replace HL := Lib.hid (HL.out.later q)
          clear q
          have q0 : 0 ≤ g - c2 := by omega
          have q1 : g - c2 ≤ 1000000000 := by omega
          go_wp2
          go_roundw
          case rel => exact ⟨1, by omega, by simp, HT.out, HL.out, Q.out⟩
          case measure => simp [intOf]
      · have kd := HL.out.cell 1 _ rfl
        rcases Int.lt_or_le g c4 with hgc | hgc
        · have R := Lib.hid ((RN4).out hgc)
          clear RY2 RN2 RY4 RN4
          simp only [Int.cast_ofNat_Int]
          go_wp2_with fail
          refine (O4.out _).mono ?_
          rintro e w9 ⟨rfl, q⟩
          replace HT := Lib.hid (HT.out.later q)
          replace Q := Lib.hid (Q.out.trans (q.mono Q.out.size))
          replace HL := Lib.hid (HL.out.later q)
          clear q
          clear kd
          go_wp2_with fail
          refine (K4.out _).mono ?_
          rintro e w10 ⟨rfl, q⟩
          replace HT := Lib.hid (HT.out.later q)
          replace Q := Lib.hid (Q.out.trans (q.mono Q.out.size))
          replace HL := Lib.hid (HL.out.later q)
          clear q
          go_wp2_with fail
          refine (O4.out _).mono ?_
          rintro e w11 ⟨rfl, q⟩
          replace HT := Lib.hid (HT.out.later q)
          replace Q := Lib.hid (Q.out.trans (q.mono Q.out.size))
          replace HL := Lib.hid (HL.out.later q)
          clear q
          go_wp2_with fail
          refine (R.out _ HT.out).mono ?_
          rintro e w12 ⟨rfl, q⟩
          replace HT := Lib.hid (HT.out.later q)
          replace Q := Lib.hid (Q.out.trans (q.mono Q.out.size))
          replace HL := Lib.hid (HL.out.later q)
          clear q
          go_wp2
          go_roundw
          case rel => exact ⟨2, by omega, by simp, HT.out, HL.out, Q.out⟩
          case measure => simp [intOf]
        · have R := Lib.hid ((RY4).out hgc)
          clear RY2 RN2 RY4 RN4
          simp only [Int.cast_ofNat_Int]
          go_wp2_with fail
          refine (O4.out _).mono ?_
          rintro e w9 ⟨rfl, q⟩
          replace HT := Lib.hid (HT.out.later q)
          replace Q := Lib.hid (Q.out.trans (q.mono Q.out.size))
          replace HL := Lib.hid (HL.out.later q)
          clear q
          clear kd
          go_wp2_with fail
          refine (K4.out _).mono ?_
          rintro e w10 ⟨rfl, q⟩
          replace HT := Lib.hid (HT.out.later q)
          replace Q := Lib.hid (Q.out.trans (q.mono Q.out.size))
          replace HL := Lib.hid (HL.out.later q)
          clear q
          go_wp2_with fail
          refine (O4.out _).mono ?_
          rintro e w11 ⟨rfl, q⟩
          replace HT := Lib.hid (HT.out.later q)
          replace Q := Lib.hid (Q.out.trans (q.mono Q.out.size))
          replace HL := Lib.hid (HL.out.later q)
          clear q
          go_wp2_with fail
          refine (R.out _ HT.out).mono ?_
          rintro e w12 ⟨rfl, q⟩
          replace HT := Lib.hid (HT.out.later q)
          replace Q := Lib.hid (Q.out.trans (q.mono Q.out.size))
          replace HL := Lib.hid (HL.out.later q)
          clear q
          have q0 : 0 ≤ g - c4 := by omega
          have q1 : g - c4 ≤ 1000000000 := by omega
          go_wp2
          go_roundw
          case rel => exact ⟨2, by omega, by simp, HT.out, HL.out, Q.out⟩
          case measure => simp [intOf]
      · simp only [Int.cast_ofNat_Int]
        go_wp2
        go_ret
        exact ⟨rfl, Q.out⟩
  · have hsc : ¬ (300 : Int) < (s.size : Int) := by omega
    obtain rfl : x = s := HX1.out (by omega)
    clear HX1 HX2 hs hsz hxs hh
    go_wp2_with fail
    refine (HP.out _).mono ?_
    rintro e w2 ⟨rfl, q⟩
    replace HT := Lib.hid (HT.out.later q)
    replace Q := Lib.hid (Q.out.trans (q.mono Q.out.size))
    clear q
    go_wp2_with fail
    refine (G1.out _ HT.out).mono ?_
    rintro e w3 ⟨rfl, q⟩
    replace HT := Lib.hid (HT.out.later q)
    replace Q := Lib.hid (Q.out.trans (q.mono Q.out.size))
    clear q
    have HL := Lib.hid (Has.new w3 3 #[.int .i64 2, .int .i64 4])
    replace HT := Lib.hid (HT.out.alloc (.cells #[.int .i64 2, .int .i64 4] 3))
    have hq := Q.out.size
    replace Q := Lib.hid (Q.out.alloc Q.out.size (.cells #[.int .i64 2, .int .i64 4] 3))
    go_wp2_with fail
    obtain ⟨W0, hW0⟩ : ∃ W0, w3.alloc (.cells #[.int .i64 2, .int .i64 4] 3) = W0 := ⟨_, rfl⟩
    rw [hW0] at HL HT Q ⊢
    clear hW0 hq
    generalize w3.heap.size = B at *
    go_loopw [34] (fun i wr => ∃ k : Nat, k ≤ 2 ∧ i = .int .i64 (k : Int) ∧ Tab wr ∧ Has wr B 3 #[.int .i64 2, .int .i64 4] ∧ Below w.heap.size w wr) (fun i _ => 2 - (intOf i).toNat)
    case atStart => exact ⟨0, by omega, rfl, HT.out, HL.out, Q.out⟩
    case round =>
      clear HT HL Q
      obtain ⟨k, hk, rfl, HT, HL, Q⟩ := hrel
      replace HT := Lib.hid HT
      replace HL := Lib.hid HL
      replace Q := Lib.hid Q
      rcases (show k = 0 ∨ k = 1 ∨ k = 2 by omega) with rfl | rfl | rfl
      · have kd := HL.out.cell 0 _ rfl
        rcases Int.lt_or_le g c2 with hgc | hgc
        · have R := Lib.hid ((RN2).out hgc)
          clear RY2 RN2 RY4 RN4
          simp only [Int.cast_ofNat_Int]
          go_wp2_with fail
          refine (O2.out _).mono ?_
          rintro e w9 ⟨rfl, q⟩
          replace HT := Lib.hid (HT.out.later q)
          replace Q := Lib.hid (Q.out.trans (q.mono Q.out.size))
          replace HL := Lib.hid (HL.out.later q)
          clear q
          clear kd
          go_wp2_with fail
          refine (K2.out _).mono ?_
          rintro e w10 ⟨rfl, q⟩
          replace HT := Lib.hid (HT.out.later q)
          replace Q := Lib.hid (Q.out.trans (q.mono Q.out.size))
          replace HL := Lib.hid (HL.out.later q)
          clear q
          go_wp2_with fail
          refine (O2.out _).mono ?_
          rintro e w11 ⟨rfl, q⟩
          replace HT := Lib.hid (HT.out.later q)
          replace Q := Lib.hid (Q.out.trans (q.mono Q.out.size))
          replace HL := Lib.hid (HL.out.later q)
          clear q
          go_wp2_with fail
          refine (R.out _ HT.out).mono ?_
          rintro e w12 ⟨rfl, q⟩
          replace HT := Lib.hid (HT.out.later q)
          replace Q := Lib.hid (Q.out.trans (q.mono Q.out.size))
          replace HL := Lib.hid (HL.out.later q)
          clear q
          go_wp2
          go_roundw
          case rel => exact ⟨1, by omega, by simp, HT.out, HL.out, Q.out⟩
          case measure => simp [intOf]
        · have R := Lib.hid ((RY2).out hgc)
          clear RY2 RN2 RY4 RN4
          simp only [Int.cast_ofNat_Int]
          go_wp2_with fail
          refine (O2.out _).mono ?_
          rintro e w9 ⟨rfl, q⟩
          replace HT := Lib.hid (HT.out.later q)
          replace Q := Lib.hid (Q.out.trans (q.mono Q.out.size))
          replace HL := Lib.hid (HL.out.later q)
          clear q
          clear kd
          go_wp2_with fail
          refine (K2.out _).mono ?_
          rintro e w10 ⟨rfl, q⟩
          replace HT := Lib.hid (HT.out.later q)
          replace Q := Lib.hid (Q.out.trans (q.mono Q.out.size))
          replace HL := Lib.hid (HL.out.later q)
          clear q
          go_wp2_with fail
          refine (O2.out _).mono ?_
          rintro e w11 ⟨rfl, q⟩
          replace HT := Lib.hid (HT.out.later q)
          replace Q := Lib.hid (Q.out.trans (q.mono Q.out.size))
          replace HL := Lib.hid (HL.out.later q)
          clear q
          go_wp2_with fail
          refine (R.out _ HT.out).mono ?_
          rintro e w12 ⟨rfl, q⟩
          replace HT := Lib.hid (HT.out.later q)
          replace Q := Lib.hid (Q.out.trans (q.mono Q.out.size))
          replace HL := Lib.hid (HL.out.later q)
          clear q
          have q0 : 0 ≤ g - c2 := by omega
          have q1 : g - c2 ≤ 1000000000 := by omega
          go_wp2
          go_roundw
          case rel => exact ⟨1, by omega, by simp, HT.out, HL.out, Q.out⟩
          case measure => simp [intOf]
      · have kd := HL.out.cell 1 _ rfl
        rcases Int.lt_or_le g c4 with hgc | hgc
        · have R := Lib.hid ((RN4).out hgc)
          clear RY2 RN2 RY4 RN4
          simp only [Int.cast_ofNat_Int]
          go_wp2_with fail
          refine (O4.out _).mono ?_
          rintro e w9 ⟨rfl, q⟩
          replace HT := Lib.hid (HT.out.later q)
          replace Q := Lib.hid (Q.out.trans (q.mono Q.out.size))
          replace HL := Lib.hid (HL.out.later q)
          clear q
          clear kd
          go_wp2_with fail
          refine (K4.out _).mono ?_
          rintro e w10 ⟨rfl, q⟩
          replace HT := Lib.hid (HT.out.later q)
          replace Q := Lib.hid (Q.out.trans (q.mono Q.out.size))
          replace HL := Lib.hid (HL.out.later q)
          clear q
          go_wp2_with fail
          refine (O4.out _).mono ?_
          rintro e w11 ⟨rfl, q⟩
          replace HT := Lib.hid (HT.out.later q)
          replace Q := Lib.hid (Q.out.trans (q.mono Q.out.size))
          replace HL := Lib.hid (HL.out.later q)
          clear q
          go_wp2_with fail
          refine (R.out _ HT.out).mono ?_
          rintro e w12 ⟨rfl, q⟩
          replace HT := Lib.hid (HT.out.later q)
          replace Q := Lib.hid (Q.out.trans (q.mono Q.out.size))
          replace HL := Lib.hid (HL.out.later q)
          clear q
          go_wp2
          go_roundw
          case rel => exact ⟨2, by omega, by simp, HT.out, HL.out, Q.out⟩
          case measure => simp [intOf]
        · have R := Lib.hid ((RY4).out hgc)
          clear RY2 RN2 RY4 RN4
          simp only [Int.cast_ofNat_Int]
          go_wp2_with fail
          refine (O4.out _).mono ?_
          rintro e w9 ⟨rfl, q⟩
          replace HT := Lib.hid (HT.out.later q)
          replace Q := Lib.hid (Q.out.trans (q.mono Q.out.size))
          replace HL := Lib.hid (HL.out.later q)
          clear q
          clear kd
          go_wp2_with fail
          refine (K4.out _).mono ?_
          rintro e w10 ⟨rfl, q⟩
          replace HT := Lib.hid (HT.out.later q)
          replace Q := Lib.hid (Q.out.trans (q.mono Q.out.size))
          replace HL := Lib.hid (HL.out.later q)
          clear q
          go_wp2_with fail
          refine (O4.out _).mono ?_
          rintro e w11 ⟨rfl, q⟩
          replace HT := Lib.hid (HT.out.later q)
          replace Q := Lib.hid (Q.out.trans (q.mono Q.out.size))
          replace HL := Lib.hid (HL.out.later q)
          clear q
          go_wp2_with fail
          refine (R.out _ HT.out).mono ?_
          rintro e w12 ⟨rfl, q⟩
          replace HT := Lib.hid (HT.out.later q)
          replace Q := Lib.hid (Q.out.trans (q.mono Q.out.size))
          replace HL := Lib.hid (HL.out.later q)
          clear q
          have q0 : 0 ≤ g - c4 := by omega
          have q1 : g - c4 ≤ 1000000000 := by omega
          go_wp2
          go_roundw
          case rel => exact ⟨2, by omega, by simp, HT.out, HL.out, Q.out⟩
          case measure => simp [intOf]
      · simp only [Int.cast_ofNat_Int]
        go_wp2
        go_ret
        exact ⟨rfl, Q.out⟩

theorem cut_300 (s : ByteArray) (h : s.size ≤ 300) : s.extract 0 300 = s := by
  apply ByteArray.ext
  rw [ByteArray.data_extract]
  apply Array.toList_inj.1
  have hsz : s.data.size ≤ 300 := h
  rw [Array.toList_extract]
  simp [List.extract]
  exact List.take_of_length_le (by simp; omega)
theorem sLeft_ret (s : ByteArray) (gas : Int) (hs : s.size ≤ 140737488355328) (hx : I64 gas) : RetT Tryd.prog 4 #[.string s, .int .i64 gas] (.bool true) := by
  obtain ⟨x, hx0⟩ : ∃ x, s.extract 0 300 = x := ⟨_, rfl⟩
  have hxs : x.size ≤ 300 := by rw [← hx0, ByteArray.size_extract]; omega
  obtain ⟨h0, h1⟩ := pickN_range gas 300 (by omega)
  have hp := pick_ret gas hx 300 (by omega) (by omega)
  have hI : I64 (pickN gas 300) := by unfold I64; omega
  generalize pickN gas 300 = g at *
  have hc : pcs x.size ≤ 100 := by unfold pcs; omega
  exact left_walk s x (sumS x) gas g (60 + 12 * (pcs x.size : Int)) (15 + 3 * (pcs x.size : Int)) hs (fun h => by rw [← hx0]; exact cut_300 s h) (fun _ => hx0) hxs (sumS_size x) ⟨h0, h1⟩ (by omega) (by omega)
    awake_ret hp (refOf_small 2 (by omega)) (refOf_small 4 (by omega)) (sum_ret x (by omega)) (cost_two x.size (by omega)) (cost_four x.size (by omega))
    (fun h => run_two x (by omega) g h hI) (fun h => (run_two_no x (by omega) g h).toT) (fun h => run_four x (by omega) g h hI) (fun h => (run_four_no x (by omega) g h).toT)
end Go.Proofs.YtnjmhcooejcehaaDoor
