/- Sums, products and differences of small numbers; the law's walk over what the calls answer. -/
import Derived.Test.YtgejdkiehcpinaaDoorSmallD
import Derived.Test.YtgejdkiehcpinaaDoorBack
namespace Go.Proofs.YtgejdkiehcpinaaDoor
open Go Go.RowKit
attribute [local go_sem] Oper.semAt_some Grows wide_fn eq4

set_option maxRecDepth 100000 in
set_option maxHeartbeats 1000000 in
theorem decimal_step (x : Int) (h0 : 10 ≤ x) (h1 : x < 1073741824) (q r : Int) (hq : q = x / 10) (hr : r = x % 10) (t u : ByteArray) (ht : (t.size : Int) ≤ 1073741824) (hu : (u.size : Int) ≤ 1)
    (i1 : Ret Tryd.prog 32 #[.int .i64 q] (.string t)) (i2 : Ret Tryd.prog 32 #[.int .i64 r] (.string u)) : Ret Tryd.prog 32 #[.int .i64 x] (.string (t ++ u)) := by
  intro w
  have I1 := Lib.hid i1
  have I2 := Lib.hid i2
  have HQ := Lib.hid hq
  have HR := Lib.hid hr
  have e1 : x.tdiv 10 = q := by rw [hq, Int.tdiv_eq_ediv_of_nonneg (by omega)]
  have e2 : x.tmod 10 = r := by rw [hr, Int.tmod_eq_emod_of_nonneg (by omega)]
  have nx : ¬ x < 10 := by omega
  have q0 : 0 ≤ q := by omega
  have q1 : q < 1073741824 := by omega
  have r0 : 0 ≤ r := by omega
  have r1 : r < 10 := by omega
  clear i1 i2 hq hr
  go_enter Tryd.func32, Tryd.ntmps32
  go_wp2_with fail
  refine (I1.out _).mono ?_
  rintro e w1 ⟨rfl, hb1⟩
  go_wp2_with fail
  refine (I2.out _).mono ?_
  rintro e w2 ⟨rfl, hb2⟩
  go_wp2
  go_ret
  exact ⟨rfl, hb1.trans (hb2.mono hb1.size)⟩
theorem decimal_ret (n : Nat) : n < 1073741824 → Ret Tryd.prog 32 #[.int .i64 (n : Int)] (.string (decStr n)) := by
  induction n using Nat.strongRecOn with
  | _ n ih =>
    intro hn
    by_cases h : n < 10
    · rw [decStr, if_pos h]; exact decimal_low n h
    · have i1 := ih (n / 10) (by omega) (by omega)
      have i2 := decimal_low (n % 10) (by omega)
      have hs := decStr_size (n / 10)
      rw [decStr_step n h]
      exact decimal_step (n : Int) (by omega) (by omega) _ _ (by omega) (by omega) _ _ (by omega) (by show ((1 : Nat) : Int) ≤ 1; decide) i1 i2

set_option maxRecDepth 100000 in
set_option maxHeartbeats 4000000 in
theorem small_walk (zA zB zS zP zD : Nat → Int) (t h : ByteArray) (m n a b p c : Int) (ha : 0 ≤ a ∧ a < 1073741824) (hb : 0 ≤ b ∧ b < 1073741824) (hp : 0 ≤ p ∧ p ≤ 1152921502459363329) (hpe : p = a * b)
    (hc : (a < b ∧ c = -1) ∨ (b < a ∧ c = 1) ∨ (a = b ∧ c = 0))
    (h1 : Ret Tryd.prog 27 #[.int .i64 m, .int .i64 1073741824] (.int .i64 a))
    (h2 : Ret Tryd.prog 27 #[.int .i64 n, .int .i64 1073741824] (.int .i64 b))
    (h3 : Ret Tryd.prog 11 #[.int .i64 a] (.agg #[.int .u64 (zA 0), .int .u64 (zA 1), .int .u64 (zA 2), .int .u64 (zA 3)]))
    (h4 : Ret Tryd.prog 11 #[.int .i64 b] (.agg #[.int .u64 (zB 0), .int .u64 (zB 1), .int .u64 (zB 2), .int .u64 (zB 3)]))
    (h5 : Ret Tryd.prog 13 #[.agg #[.int .u64 (zA 0), .int .u64 (zA 1), .int .u64 (zA 2), .int .u64 (zA 3)], .agg #[.int .u64 (zB 0), .int .u64 (zB 1), .int .u64 (zB 2), .int .u64 (zB 3)]] (.agg #[.int .u64 (zS 0), .int .u64 (zS 1), .int .u64 (zS 2), .int .u64 (zS 3)]))
    (h6 : Ret Tryd.prog 19 #[.agg #[.int .u64 (zS 0), .int .u64 (zS 1), .int .u64 (zS 2), .int .u64 (zS 3)]] (.tuple #[.int .i64 (a + b), .bool true]))
    (h7 : Ret Tryd.prog 17 #[.agg #[.int .u64 (zA 0), .int .u64 (zA 1), .int .u64 (zA 2), .int .u64 (zA 3)], .agg #[.int .u64 (zB 0), .int .u64 (zB 1), .int .u64 (zB 2), .int .u64 (zB 3)]] (.agg #[.int .u64 (zP 0), .int .u64 (zP 1), .int .u64 (zP 2), .int .u64 (zP 3)]))
    (h8 : Ret Tryd.prog 19 #[.agg #[.int .u64 (zP 0), .int .u64 (zP 1), .int .u64 (zP 2), .int .u64 (zP 3)]] (.tuple #[.int .i64 (a * b), .bool true]))
    (h9 : Ret Tryd.prog 15 #[.agg #[.int .u64 (zA 0), .int .u64 (zA 1), .int .u64 (zA 2), .int .u64 (zA 3)], .agg #[.int .u64 (zB 0), .int .u64 (zB 1), .int .u64 (zB 2), .int .u64 (zB 3)]] (.agg #[.int .u64 (zD 0), .int .u64 (zD 1), .int .u64 (zD 2), .int .u64 (zD 3)]))
    (h10 : Ret Tryd.prog 32 #[.int .i64 a] (.string t))
    (h11 : Ret Tryd.prog 28 #[.string t] (.tuple #[.agg #[.int .u64 (zA 0), .int .u64 (zA 1), .int .u64 (zA 2), .int .u64 (zA 3)], .int .i64 0]))
    (h12 : Ret Tryd.prog 23 #[.agg #[.int .u64 (zA 0), .int .u64 (zA 1), .int .u64 (zA 2), .int .u64 (zA 3)]] (.string h))
    (h13 : Ret Tryd.prog 28 #[.string h] (.tuple #[.agg #[.int .u64 (zA 0), .int .u64 (zA 1), .int .u64 (zA 2), .int .u64 (zA 3)], .int .i64 0]))
    (h14 : Ret Tryd.prog 11 #[.int .i64 (a - b)] (.agg #[.int .u64 (zD 0), .int .u64 (zD 1), .int .u64 (zD 2), .int .u64 (zD 3)]))
    (h15 : Ret Tryd.prog 25 #[.agg #[.int .u64 (zA 0), .int .u64 (zA 1), .int .u64 (zA 2), .int .u64 (zA 3)], .agg #[.int .u64 (zB 0), .int .u64 (zB 1), .int .u64 (zB 2), .int .u64 (zB 3)]] (.int .i64 c)) :
    Ret Tryd.prog 7 #[.int .i64 m, .int .i64 n] (.bool true) := by
  intro w
  have k1 := awake_ret
  obtain ⟨ha0, ha1⟩ := ha
  obtain ⟨hb0, hb1⟩ := hb
  obtain ⟨hp0, hp1⟩ := hp
  have HC := Lib.hid hc
  clear hc
  rw [← hpe] at h8
  have HPE := Lib.hid hpe
  have hpe2 : a * b = p := hpe.symm
  clear hpe
  go_enter Tryd.func7, Tryd.ntmps7
  go_wp2_with fail
  refine (k1 _).mono ?_
  rintro e w1 ⟨rfl, q1⟩
  go_wp2_with fail
  refine (h1 _).mono ?_
  rintro e w2 ⟨rfl, q2⟩
  go_wp2_with fail
  refine (h2 _).mono ?_
  rintro e w3 ⟨rfl, q3⟩
  have Q := (q1.trans (q2.mono q1.size)).trans (q3.mono (Nat.le_trans q1.size q2.size))
  clear q1 q2 q3 k1 h1 h2
  go_wp2_with fail
  refine (h3 _).mono ?_
  rintro e w4 ⟨rfl, q⟩
  have Q := Q.trans (q.mono Q.size)
  clear q
  go_wp2_with fail
  refine (h4 _).mono ?_
  rintro e w5 ⟨rfl, q⟩
  have Q := Q.trans (q.mono Q.size)
  clear q
  go_wp2_with fail
  refine (h5 _).mono ?_
  rintro e w6 ⟨rfl, q⟩
  have Q := Q.trans (q.mono Q.size)
  clear q
  go_wp2_with fail
  refine (h6 _).mono ?_
  rintro e w7 ⟨rfl, q⟩
  have Q := Q.trans (q.mono Q.size)
  clear q
  go_wp2_with fail
  refine (h3 _).mono ?_
  rintro e w8 ⟨rfl, q⟩
  have Q := Q.trans (q.mono Q.size)
  clear q
  go_wp2_with fail
  refine (h4 _).mono ?_
  rintro e w9 ⟨rfl, q⟩
  have Q := Q.trans (q.mono Q.size)
  clear q
  go_wp2_with fail
  refine (h7 _).mono ?_
  rintro e w10 ⟨rfl, q⟩
  have Q := Q.trans (q.mono Q.size)
  clear q
  go_wp2_with fail
  refine (h8 _).mono ?_
  rintro e w11 ⟨rfl, q⟩
  have Q := Q.trans (q.mono Q.size)
  clear q
  go_wp2_with fail
  refine (h3 _).mono ?_
  rintro e w12 ⟨rfl, q⟩
  have Q := Q.trans (q.mono Q.size)
  clear q
  go_wp2_with fail
  refine (h4 _).mono ?_
  rintro e w13 ⟨rfl, q⟩
  have Q := Q.trans (q.mono Q.size)
  clear q
  go_wp2_with fail
  refine (h9 _).mono ?_
  rintro e w14 ⟨rfl, q⟩
  have Q := Q.trans (q.mono Q.size)
  clear q
  go_wp2_with fail
  have LD := Lies.new w14 (zD 0) (zD 1) (zD 2) (zD 3)
  have Q := Q.alloc Q.size (.cells #[.int .u64 (zD 0), .int .u64 (zD 1), .int .u64 (zD 2), .int .u64 (zD 3)] 24)
  obtain ⟨W1, hW1⟩ : ∃ W1, w14.alloc (.cells #[.int .u64 (zD 0), .int .u64 (zD 1), .int .u64 (zD 2), .int .u64 (zD 3)] 24) = W1 := ⟨_, rfl⟩
  rw [hW1] at LD Q ⊢
  clear hW1
  generalize w14.heap.size = bD at *
  refine (h10 _).mono ?_
  rintro e v1 ⟨rfl, q⟩
  have LD := LD.later q
  have Q := Q.trans (q.mono Q.size)
  clear q
  go_wp2_with fail
  refine (h11 _).mono ?_
  rintro e v2 ⟨rfl, q⟩
  have LD := (LD.later q).alloc (.cells #[.int .u64 (zA 0), .int .u64 (zA 1), .int .u64 (zA 2), .int .u64 (zA 3)] 24)
  have Q' := Q.trans (q.mono Q.size)
  have LX := Lies.new v2 (zA 0) (zA 1) (zA 2) (zA 3)
  have Q := Q'.alloc Q'.size (.cells #[.int .u64 (zA 0), .int .u64 (zA 1), .int .u64 (zA 2), .int .u64 (zA 3)] 24)
  clear q Q'
  go_wp2_with fail
  obtain ⟨W2, hW2⟩ : ∃ W2, v2.alloc (.cells #[.int .u64 (zA 0), .int .u64 (zA 1), .int .u64 (zA 2), .int .u64 (zA 3)] 24) = W2 := ⟨_, rfl⟩
  rw [hW2] at LD LX Q ⊢
  clear hW2
  generalize v2.heap.size = bX at *
  refine (h3 _).mono ?_
  rintro e v3 ⟨rfl, q⟩
  have LD := LD.later q
  have LX := LX.later q
  have Q := Q.trans (q.mono Q.size)
  clear q
  go_wp2_with fail
  refine (h12 _).mono ?_
  rintro e v4 ⟨rfl, q⟩
  have LD := LD.later q
  have LX := LX.later q
  have Q := Q.trans (q.mono Q.size)
  clear q
  go_wp2_with fail
  refine (h13 _).mono ?_
  rintro e v5 ⟨rfl, q⟩
  have LD := (LD.later q).alloc (.cells #[.int .u64 (zA 0), .int .u64 (zA 1), .int .u64 (zA 2), .int .u64 (zA 3)] 24)
  have LX := (LX.later q).alloc (.cells #[.int .u64 (zA 0), .int .u64 (zA 1), .int .u64 (zA 2), .int .u64 (zA 3)] 24)
  have LY := Lies.new v5 (zA 0) (zA 1) (zA 2) (zA 3)
  have Q' := Q.trans (q.mono Q.size)
  have Q := Lib.hid (Q'.alloc Q'.size (.cells #[.int .u64 (zA 0), .int .u64 (zA 1), .int .u64 (zA 2), .int .u64 (zA 3)] 24))
  clear q Q'
  rcases HC.out with ⟨o1, rfl⟩ | ⟨o1, rfl⟩ | ⟨o1, rfl⟩
  all_goals clear HC
  · go_wp2_with fail
    obtain ⟨W2, hW2⟩ : ∃ W2, v5.alloc (.cells #[.int .u64 (zA 0), .int .u64 (zA 1), .int .u64 (zA 2), .int .u64 (zA 3)] 24) = W2 := ⟨_, rfl⟩
    rw [hW2] at LD LX LY Q ⊢
    clear hW2
    generalize v5.heap.size = bY at *
    have fD0 : ∀ x : Ext W2, x.w.cell? ⟨bD, 0, none⟩ = some (.int .u64 (zD 0)) := fun x => (LD.later x.below).c0
    have fD1 : ∀ x : Ext W2, x.w.cell? ⟨bD, 1, none⟩ = some (.int .u64 (zD 1)) := fun x => (LD.later x.below).c1
    have fD2 : ∀ x : Ext W2, x.w.cell? ⟨bD, 2, none⟩ = some (.int .u64 (zD 2)) := fun x => (LD.later x.below).c2
    have fD3 : ∀ x : Ext W2, x.w.cell? ⟨bD, 3, none⟩ = some (.int .u64 (zD 3)) := fun x => (LD.later x.below).c3
    have fX0 : ∀ x : Ext W2, x.w.cell? ⟨bX, 0, none⟩ = some (.int .u64 (zA 0)) := fun x => (LX.later x.below).c0
    have fX1 : ∀ x : Ext W2, x.w.cell? ⟨bX, 1, none⟩ = some (.int .u64 (zA 1)) := fun x => (LX.later x.below).c1
    have fX2 : ∀ x : Ext W2, x.w.cell? ⟨bX, 2, none⟩ = some (.int .u64 (zA 2)) := fun x => (LX.later x.below).c2
    have fX3 : ∀ x : Ext W2, x.w.cell? ⟨bX, 3, none⟩ = some (.int .u64 (zA 3)) := fun x => (LX.later x.below).c3
    have fY0 : ∀ x : Ext W2, x.w.cell? ⟨bY, 0, none⟩ = some (.int .u64 (zA 0)) := fun x => (LY.later x.below).c0
    have fY1 : ∀ x : Ext W2, x.w.cell? ⟨bY, 1, none⟩ = some (.int .u64 (zA 1)) := fun x => (LY.later x.below).c1
    have fY2 : ∀ x : Ext W2, x.w.cell? ⟨bY, 2, none⟩ = some (.int .u64 (zA 2)) := fun x => (LY.later x.below).c2
    have fY3 : ∀ x : Ext W2, x.w.cell? ⟨bY, 3, none⟩ = some (.int .u64 (zA 3)) := fun x => (LY.later x.below).c3
    clear LD LX LY h5 h6 h7 h8 h9 h10 h11 h12 h13 HPE
    refine wp_region_quietL (C := Grows W2) (by kernel_rfl) (by kernel_rfl) (grows_refl W2) ?_
    repeat (go_big_quiet_step (first | (with_reducible exact Ret.at h14 _) | (with_reducible exact Ret.at h3 _) | (with_reducible exact Ret.at h4 _) | (with_reducible exact Ret.at h15 _)))
    refine wpQuiet_nil ?_
    rintro _ ⟨x, rfl⟩
    go_wp2
    go_ret
    exact ⟨rfl, Q.out.trans (x.below.mono Q.out.size)⟩
  · have o2 : ¬ a < b := by omega
    go_wp2_with fail
    obtain ⟨W2, hW2⟩ : ∃ W2, v5.alloc (.cells #[.int .u64 (zA 0), .int .u64 (zA 1), .int .u64 (zA 2), .int .u64 (zA 3)] 24) = W2 := ⟨_, rfl⟩
    rw [hW2] at LD LX LY Q ⊢
    clear hW2
    generalize v5.heap.size = bY at *
    have fD0 : ∀ x : Ext W2, x.w.cell? ⟨bD, 0, none⟩ = some (.int .u64 (zD 0)) := fun x => (LD.later x.below).c0
    have fD1 : ∀ x : Ext W2, x.w.cell? ⟨bD, 1, none⟩ = some (.int .u64 (zD 1)) := fun x => (LD.later x.below).c1
    have fD2 : ∀ x : Ext W2, x.w.cell? ⟨bD, 2, none⟩ = some (.int .u64 (zD 2)) := fun x => (LD.later x.below).c2
    have fD3 : ∀ x : Ext W2, x.w.cell? ⟨bD, 3, none⟩ = some (.int .u64 (zD 3)) := fun x => (LD.later x.below).c3
    have fX0 : ∀ x : Ext W2, x.w.cell? ⟨bX, 0, none⟩ = some (.int .u64 (zA 0)) := fun x => (LX.later x.below).c0
    have fX1 : ∀ x : Ext W2, x.w.cell? ⟨bX, 1, none⟩ = some (.int .u64 (zA 1)) := fun x => (LX.later x.below).c1
    have fX2 : ∀ x : Ext W2, x.w.cell? ⟨bX, 2, none⟩ = some (.int .u64 (zA 2)) := fun x => (LX.later x.below).c2
    have fX3 : ∀ x : Ext W2, x.w.cell? ⟨bX, 3, none⟩ = some (.int .u64 (zA 3)) := fun x => (LX.later x.below).c3
    have fY0 : ∀ x : Ext W2, x.w.cell? ⟨bY, 0, none⟩ = some (.int .u64 (zA 0)) := fun x => (LY.later x.below).c0
    have fY1 : ∀ x : Ext W2, x.w.cell? ⟨bY, 1, none⟩ = some (.int .u64 (zA 1)) := fun x => (LY.later x.below).c1
    have fY2 : ∀ x : Ext W2, x.w.cell? ⟨bY, 2, none⟩ = some (.int .u64 (zA 2)) := fun x => (LY.later x.below).c2
    have fY3 : ∀ x : Ext W2, x.w.cell? ⟨bY, 3, none⟩ = some (.int .u64 (zA 3)) := fun x => (LY.later x.below).c3
    clear LD LX LY h5 h6 h7 h8 h9 h10 h11 h12 h13 HPE
    refine wp_region_quietL (C := Grows W2) (by kernel_rfl) (by kernel_rfl) (grows_refl W2) ?_
    repeat (go_big_quiet_step (first | (with_reducible exact Ret.at h14 _) | (with_reducible exact Ret.at h3 _) | (with_reducible exact Ret.at h4 _) | (with_reducible exact Ret.at h15 _)))
    refine wpQuiet_nil ?_
    rintro _ ⟨x, rfl⟩
    go_wp2
    go_ret
    exact ⟨rfl, Q.out.trans (x.below.mono Q.out.size)⟩
  · have o2 : ¬ a < b := by omega
    have o3 : ¬ b < a := by omega
    clear o1
    go_wp2_with fail
    obtain ⟨W2, hW2⟩ : ∃ W2, v5.alloc (.cells #[.int .u64 (zA 0), .int .u64 (zA 1), .int .u64 (zA 2), .int .u64 (zA 3)] 24) = W2 := ⟨_, rfl⟩
    rw [hW2] at LD LX LY Q ⊢
    clear hW2
    generalize v5.heap.size = bY at *
    have fD0 : ∀ x : Ext W2, x.w.cell? ⟨bD, 0, none⟩ = some (.int .u64 (zD 0)) := fun x => (LD.later x.below).c0
    have fD1 : ∀ x : Ext W2, x.w.cell? ⟨bD, 1, none⟩ = some (.int .u64 (zD 1)) := fun x => (LD.later x.below).c1
    have fD2 : ∀ x : Ext W2, x.w.cell? ⟨bD, 2, none⟩ = some (.int .u64 (zD 2)) := fun x => (LD.later x.below).c2
    have fD3 : ∀ x : Ext W2, x.w.cell? ⟨bD, 3, none⟩ = some (.int .u64 (zD 3)) := fun x => (LD.later x.below).c3
    have fX0 : ∀ x : Ext W2, x.w.cell? ⟨bX, 0, none⟩ = some (.int .u64 (zA 0)) := fun x => (LX.later x.below).c0
    have fX1 : ∀ x : Ext W2, x.w.cell? ⟨bX, 1, none⟩ = some (.int .u64 (zA 1)) := fun x => (LX.later x.below).c1
    have fX2 : ∀ x : Ext W2, x.w.cell? ⟨bX, 2, none⟩ = some (.int .u64 (zA 2)) := fun x => (LX.later x.below).c2
    have fX3 : ∀ x : Ext W2, x.w.cell? ⟨bX, 3, none⟩ = some (.int .u64 (zA 3)) := fun x => (LX.later x.below).c3
    have fY0 : ∀ x : Ext W2, x.w.cell? ⟨bY, 0, none⟩ = some (.int .u64 (zA 0)) := fun x => (LY.later x.below).c0
    have fY1 : ∀ x : Ext W2, x.w.cell? ⟨bY, 1, none⟩ = some (.int .u64 (zA 1)) := fun x => (LY.later x.below).c1
    have fY2 : ∀ x : Ext W2, x.w.cell? ⟨bY, 2, none⟩ = some (.int .u64 (zA 2)) := fun x => (LY.later x.below).c2
    have fY3 : ∀ x : Ext W2, x.w.cell? ⟨bY, 3, none⟩ = some (.int .u64 (zA 3)) := fun x => (LY.later x.below).c3
    clear LD LX LY h5 h6 h7 h8 h9 h10 h11 h12 h13 HPE
    refine wp_region_quietL (C := Grows W2) (by kernel_rfl) (by kernel_rfl) (grows_refl W2) ?_
    repeat (go_big_quiet_step (first | (with_reducible exact Ret.at h14 _) | (with_reducible exact Ret.at h3 _) | (with_reducible exact Ret.at h4 _) | (with_reducible exact Ret.at h15 _)))
    refine wpQuiet_nil ?_
    rintro _ ⟨x, rfl⟩
    go_wp2
    go_ret
    exact ⟨rfl, Q.out.trans (x.below.mono Q.out.size)⟩
end Go.Proofs.YtgejdkiehcpinaaDoor
