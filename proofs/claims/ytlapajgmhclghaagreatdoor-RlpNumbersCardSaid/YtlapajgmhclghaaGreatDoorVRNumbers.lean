import Derived.Test.YtlapajgmhclghaaGreatDoorU20
/- RlpNumbers: a number is read as what it was told as. Conditions: errors.errorType lies in memory as it was laid. -/
namespace Go.Proofs.YtlapajgmhclghaaGreatDoor
open Go Go.RowKit
attribute [local go_sem] Oper.semAt_some Grows wide_fn eq4 itemField1

set_option maxRecDepth 100000 in
set_option maxHeartbeats 8000000 in
theorem numbers_walk (l0 l1 l2 l3 m0 m1 m2 m3 k : Int) (sa sb : ByteArray) (c z less : Bool) (w : World) (hT : TabE w)
    (d_na : Ret Tryz.prog 13 #[.agg #[.int .u64 l0, .int .u64 l1, .int .u64 l2, .int .u64 l3]] (.agg #[.bool false, .string sa, .slice none 0 0])) (d_nb : Ret Tryz.prog 13 #[.agg #[.int .u64 m0, .int .u64 m1, .int .u64 m2, .int .u64 m3]] (.agg #[.bool false, .string sb, .slice none 0 0]))
    (d_va : Ret Tryz.prog 17 #[.agg #[.bool false, .string sa, .slice none 0 0]] (.tuple #[.agg #[.int .u64 l0, .int .u64 l1, .int .u64 l2, .int .u64 l3], .bool true]))
    (d_vo : Ret Tryz.prog 17 #[.agg #[.bool false, .string (⟨#[0]⟩ ++ sa), .slice none 0 0]] (.tuple #[.agg #[.int .u64 0, .int .u64 0, .int .u64 0, .int .u64 0], .bool false]))
    (d_cmp : Ret Tryz.prog 28 #[.agg #[.int .u64 l0, .int .u64 l1, .int .u64 l2, .int .u64 l3], .agg #[.int .u64 m0, .int .u64 m1, .int .u64 m2, .int .u64 m3]] (.int .i64 k))
    (d_same : Ret Tryz.prog 21 #[.agg #[.bool false, .string sa, .slice none 0 0], .agg #[.bool false, .string sb, .slice none 0 0]] (.bool c))
    (hk : decide (k < 0) = less) (hsa : sa.size ≤ 32) (hle : less = true → (sa.size : Int) ≤ (sb.size : Int))
    (hc : (l0 == m0 && l1 == m1 && l2 == m2 && l3 == m3) = c) (hz : (l0 == 0 && l1 == 0 && l2 == 0 && l3 == 0) = z) (hs : ((sa.size : Int) == 0) = z) :
    Calls Tryz.prog 5 #[.agg #[.int .u64 l0, .int .u64 l1, .int .u64 l2, .int .u64 l3], .agg #[.int .u64 m0, .int .u64 m1, .int .u64 m2, .int .u64 m3]] w fun e w' => e = .returned (.bool true) ∧ Below w.heap.size w w' := by
  have hmx : Tryz.prog.follows .mixedOrders = true := by kernel_rfl
  have Q := Lib.hid (((Below.refl w.heap.size w).alloc (Nat.le_refl _) (.cells #[.int .u64 l0, .int .u64 l1, .int .u64 l2, .int .u64 l3] 25)).alloc (by simp) (.cells #[.int .u64 m0, .int .u64 m1, .int .u64 m2, .int .u64 m3] 25))
  have LA := Lib.hid ((Has.new w 25 #[.int .u64 l0, .int .u64 l1, .int .u64 l2, .int .u64 l3]).alloc (.cells #[.int .u64 m0, .int .u64 m1, .int .u64 m2, .int .u64 m3] 25))
  have LB0 := Has.new (w.alloc (.cells #[.int .u64 l0, .int .u64 l1, .int .u64 l2, .int .u64 l3] 25)) 25 #[.int .u64 m0, .int .u64 m1, .int .u64 m2, .int .u64 m3]
  rw [World.size_alloc] at LB0
  have LB := Lib.hid LB0
  replace hT := Lib.hid (hT.later (((Below.refl w.heap.size w).alloc (Nat.le_refl _) (.cells #[.int .u64 l0, .int .u64 l1, .int .u64 l2, .int .u64 l3] 25)).alloc (by simp) (.cells #[.int .u64 m0, .int .u64 m1, .int .u64 m2, .int .u64 m3] 25)))
  clear LB0
  obtain ⟨V0, hV0⟩ : ∃ V0, (w.alloc (.cells #[.int .u64 l0, .int .u64 l1, .int .u64 l2, .int .u64 l3] 25)).alloc (.cells #[.int .u64 m0, .int .u64 m1, .int .u64 m2, .int .u64 m3] 25) = V0 := ⟨_, rfl⟩
  rw [hV0] at Q LA LB hT
  replace d_na := Lib.hid d_na
  replace d_nb := Lib.hid d_nb
  replace d_va := Lib.hid d_va
  replace d_vo := Lib.hid d_vo
  replace d_cmp := Lib.hid d_cmp
  replace d_same := Lib.hid d_same
  replace hk := Lib.hid hk
  replace hle := Lib.hid hle
  replace hc := Lib.hid hc
  replace hz := Lib.hid hz
  replace hs := Lib.hid hs
  go_enter Tryz.func5, Tryz.ntmps5
  go_wp2_with fail
  clear hV0
  refine (awake_any _ hT.out).mono ?_
  rintro _ W1 ⟨rfl, q⟩
  replace Q := Lib.hid (Q.out.trans (q.mono Q.out.size))
  replace hT := Lib.hid (hT.out.later q)
  replace LA := Lib.hid (LA.out.later q)
  replace LB := Lib.hid (LB.out.later q)
  clear q
  have c0 := LA.out.cell 0 _ rfl
  have c1 := LA.out.cell 1 _ rfl
  have c2 := LA.out.cell 2 _ rfl
  have c3 := LA.out.cell 3 _ rfl
  go_wp2_with fail
  clear c0 c1 c2 c3
  refine (d_na.out _).mono ?_
  rintro _ W2 ⟨rfl, q⟩
  replace Q := Lib.hid (Q.out.trans (q.mono Q.out.size))
  replace hT := Lib.hid (hT.out.later q)
  replace LA := Lib.hid (LA.out.later q)
  replace LB := Lib.hid (LB.out.later q)
  clear q
  have NX := Has.new W2 29 #[.bool false, .string ⟨#[]⟩, .slice none 0 0]
  have L6 := Has.new W2 29 #[.bool false, .string sa, .slice none 0 0]
  have x0 := NX.cell 0 _ rfl
  have f0 := NX.frozen 0
  have y0 := L6.cell 0 _ rfl
  have g0 := L6.frozen 0
  have x1 := NX.cell 1 _ rfl
  have f1 := NX.frozen 1
  have y1 := L6.cell 1 _ rfl
  have g1 := L6.frozen 1
  have x2 := NX.cell 2 _ rfl
  have f2 := NX.frozen 2
  have y2 := L6.cell 2 _ rfl
  have g2 := L6.frozen 2
  have q0 := (Below.refl W2.heap.size W2).alloc (Nat.le_refl _) (.cells #[.bool false, .string sa, .slice none 0 0] 29)
  replace Q := Lib.hid (Q.out.trans (q0.mono Q.out.size))
  replace hT := Lib.hid (hT.out.later q0)
  replace LA := Lib.hid (LA.out.later q0)
  replace LB := Lib.hid (LB.out.later q0)
  have c0 := LB.out.cell 0 _ rfl
  have c1 := LB.out.cell 1 _ rfl
  have c2 := LB.out.cell 2 _ rfl
  have c3 := LB.out.cell 3 _ rfl
  replace NX := Lib.hid NX
  replace L6 := Lib.hid L6
  go_wp2_with fail
  obtain ⟨V1, hV1⟩ : ∃ V1, W2.alloc (.cells #[.bool false, .string sa, .slice none 0 0] 29) = V1 := ⟨_, rfl⟩
  rw [hV1] at Q hT LA LB L6 ⊢
  clear q0 hV1 NX x0 f0 y0 g0 x1 f1 y1 g1 x2 f2 y2 g2
  clear c0 c1 c2 c3
  refine (d_nb.out _).mono ?_
  rintro _ W3 ⟨rfl, q⟩
  replace Q := Lib.hid (Q.out.trans (q.mono Q.out.size))
  replace hT := Lib.hid (hT.out.later q)
  replace LA := Lib.hid (LA.out.later q)
  replace LB := Lib.hid (LB.out.later q)
  replace L6 := Lib.hid (L6.out.later q)
  clear q
  have NX := Has.new W3 29 #[.bool false, .string ⟨#[]⟩, .slice none 0 0]
  have L7 := Has.new W3 29 #[.bool false, .string sb, .slice none 0 0]
  have x0 := NX.cell 0 _ rfl
  have f0 := NX.frozen 0
  have y0 := L7.cell 0 _ rfl
  have g0 := L7.frozen 0
  have x1 := NX.cell 1 _ rfl
  have f1 := NX.frozen 1
  have y1 := L7.cell 1 _ rfl
  have g1 := L7.frozen 1
  have x2 := NX.cell 2 _ rfl
  have f2 := NX.frozen 2
  have y2 := L7.cell 2 _ rfl
  have g2 := L7.frozen 2
  have q0 := (Below.refl W3.heap.size W3).alloc (Nat.le_refl _) (.cells #[.bool false, .string sb, .slice none 0 0] 29)
  replace Q := Lib.hid (Q.out.trans (q0.mono Q.out.size))
  replace hT := Lib.hid (hT.out.later q0)
  replace LA := Lib.hid (LA.out.later q0)
  replace LB := Lib.hid (LB.out.later q0)
  replace L6 := Lib.hid (L6.out.later q0)
  have c0 := L6.out.cell 0 _ rfl
  have c1 := L6.out.cell 1 _ rfl
  have c2 := L6.out.cell 2 _ rfl
  replace NX := Lib.hid NX
  replace L7 := Lib.hid L7
  go_wp2_with fail
  obtain ⟨V2, hV2⟩ : ∃ V2, W3.alloc (.cells #[.bool false, .string sb, .slice none 0 0] 29) = V2 := ⟨_, rfl⟩
  rw [hV2] at Q hT LA LB L6 L7 ⊢
  clear q0 hV2 NX x0 f0 y0 g0 x1 f1 y1 g1 x2 f2 y2 g2
  clear c0 c1 c2
  refine (d_va.out _).mono ?_
  rintro _ W4 ⟨rfl, q⟩
  replace Q := Lib.hid (Q.out.trans (q.mono Q.out.size))
  replace hT := Lib.hid (hT.out.later q)
  replace LA := Lib.hid (LA.out.later q)
  replace LB := Lib.hid (LB.out.later q)
  replace L6 := Lib.hid (L6.out.later q)
  replace L7 := Lib.hid (L7.out.later q)
  clear q
  have NX := Has.new W4 25 #[.int .u64 0, .int .u64 0, .int .u64 0, .int .u64 0]
  have x0 := NX.cell 0 _ rfl
  have f0 := NX.frozen 0
  have x1 := NX.cell 1 _ rfl
  have f1 := NX.frozen 1
  have x2 := NX.cell 2 _ rfl
  have f2 := NX.frozen 2
  have x3 := NX.cell 3 _ rfl
  have f3 := NX.frozen 3
  replace NX := Lib.hid NX
  obtain ⟨V3, hV3⟩ : ∃ V3, W4.alloc (.cells #[.int .u64 l0, .int .u64 l1, .int .u64 l2, .int .u64 l3] 25) = V3 := ⟨_, rfl⟩
  have qn : Below W4.heap.size W4 V3 := by rw [← hV3]; exact (Below.refl _ _).alloc (Nat.le_refl _) _
  have L8 := Lib.hid (show Has V3 W4.heap.size 25 #[.int .u64 l0, .int .u64 l1, .int .u64 l2, .int .u64 l3] by rw [← hV3]; exact Has.new _ _ _)
  replace Q := Lib.hid (Q.out.trans (qn.mono Q.out.size))
  replace hT := Lib.hid (hT.out.later qn)
  replace LA := Lib.hid (LA.out.later qn)
  replace LB := Lib.hid (LB.out.later qn)
  replace L6 := Lib.hid (L6.out.later qn)
  replace L7 := Lib.hid (L7.out.later qn)
  have c0 := L6.out.cell 0 _ rfl
  have c1 := L6.out.cell 1 _ rfl
  have c2 := L6.out.cell 2 _ rfl
  go_wp2_with fail
  clear c0 c1 c2
  clear qn NX x0 f0 x1 f1 x2 f2 x3 f3 hV3
  refine (d_vo.out _).mono ?_
  rintro _ W5 ⟨rfl, q⟩
  replace Q := Lib.hid (Q.out.trans (q.mono Q.out.size))
  replace hT := Lib.hid (hT.out.later q)
  replace LA := Lib.hid (LA.out.later q)
  replace LB := Lib.hid (LB.out.later q)
  replace L6 := Lib.hid (L6.out.later q)
  replace L7 := Lib.hid (L7.out.later q)
  replace L8 := Lib.hid (L8.out.later q)
  clear q
  have q0 := (Below.refl W5.heap.size W5).alloc (Nat.le_refl _) (.cells #[.int .u64 0, .int .u64 0, .int .u64 0, .int .u64 0] 25)
  have NX := Has.new W5 25 #[.int .u64 0, .int .u64 0, .int .u64 0, .int .u64 0]
  have x0 := NX.cell 0 _ rfl
  have f0 := NX.frozen 0
  have x1 := NX.cell 1 _ rfl
  have f1 := NX.frozen 1
  have x2 := NX.cell 2 _ rfl
  have f2 := NX.frozen 2
  have x3 := NX.cell 3 _ rfl
  have f3 := NX.frozen 3
  replace NX := Lib.hid NX
  replace Q := Lib.hid (Q.out.trans (q0.mono Q.out.size))
  replace hT := Lib.hid (hT.out.later q0)
  replace LA := Lib.hid (LA.out.later q0)
  replace LB := Lib.hid (LB.out.later q0)
  replace L6 := Lib.hid (L6.out.later q0)
  replace L7 := Lib.hid (L7.out.later q0)
  replace L8 := Lib.hid (L8.out.later q0)
  have c0 := LA.out.cell 0 _ rfl
  have c1 := LA.out.cell 1 _ rfl
  have c2 := LA.out.cell 2 _ rfl
  have c3 := LA.out.cell 3 _ rfl
  have e0 := LB.out.cell 0 _ rfl
  have e1 := LB.out.cell 1 _ rfl
  have e2 := LB.out.cell 2 _ rfl
  have e3 := LB.out.cell 3 _ rfl
  go_wp2_with fail
  obtain ⟨V9, hV9⟩ : ∃ V9, W5.alloc (.cells #[.int .u64 0, .int .u64 0, .int .u64 0, .int .u64 0] 25) = V9 := ⟨_, rfl⟩
  rw [hV9] at Q hT LA LB L6 L7 L8 ⊢
  clear q0 hV9 NX x0 f0 x1 f1 x2 f2 x3 f3
  clear c0 c1 c2 c3 e0 e1 e2 e3
  refine (d_cmp.out _).mono ?_
  rintro _ W6 ⟨rfl, q⟩
  replace Q := Lib.hid (Q.out.trans (q.mono Q.out.size))
  replace hT := Lib.hid (hT.out.later q)
  replace LA := Lib.hid (LA.out.later q)
  replace LB := Lib.hid (LB.out.later q)
  replace L6 := Lib.hid (L6.out.later q)
  replace L7 := Lib.hid (L7.out.later q)
  replace L8 := Lib.hid (L8.out.later q)
  clear q
  go_wp2_with fail
  rw [hk.out]
  generalize W2.heap.size = b6 at *
  generalize W3.heap.size = b7 at *
  generalize W4.heap.size = b8 at *
  have kLA0 : ∀ x : Ext W6, x.w.cell? ⟨w.heap.size, 0, none⟩ = some (.int .u64 l0) := fun x => (LA.out.later x.below).cell 0 _ rfl
  have kLA1 : ∀ x : Ext W6, x.w.cell? ⟨w.heap.size, 1, none⟩ = some (.int .u64 l1) := fun x => (LA.out.later x.below).cell 1 _ rfl
  have kLA2 : ∀ x : Ext W6, x.w.cell? ⟨w.heap.size, 2, none⟩ = some (.int .u64 l2) := fun x => (LA.out.later x.below).cell 2 _ rfl
  have kLA3 : ∀ x : Ext W6, x.w.cell? ⟨w.heap.size, 3, none⟩ = some (.int .u64 l3) := fun x => (LA.out.later x.below).cell 3 _ rfl
  have kLB0 : ∀ x : Ext W6, x.w.cell? ⟨w.heap.size + 1, 0, none⟩ = some (.int .u64 m0) := fun x => (LB.out.later x.below).cell 0 _ rfl
  have kLB1 : ∀ x : Ext W6, x.w.cell? ⟨w.heap.size + 1, 1, none⟩ = some (.int .u64 m1) := fun x => (LB.out.later x.below).cell 1 _ rfl
  have kLB2 : ∀ x : Ext W6, x.w.cell? ⟨w.heap.size + 1, 2, none⟩ = some (.int .u64 m2) := fun x => (LB.out.later x.below).cell 2 _ rfl
  have kLB3 : ∀ x : Ext W6, x.w.cell? ⟨w.heap.size + 1, 3, none⟩ = some (.int .u64 m3) := fun x => (LB.out.later x.below).cell 3 _ rfl
  have kL60 : ∀ x : Ext W6, x.w.cell? ⟨b6, 0, none⟩ = some (.bool false) := fun x => (L6.out.later x.below).cell 0 _ rfl
  have kL61 : ∀ x : Ext W6, x.w.cell? ⟨b6, 1, none⟩ = some (.string sa) := fun x => (L6.out.later x.below).cell 1 _ rfl
  have kL62 : ∀ x : Ext W6, x.w.cell? ⟨b6, 2, none⟩ = some (.slice none 0 0) := fun x => (L6.out.later x.below).cell 2 _ rfl
  have kL70 : ∀ x : Ext W6, x.w.cell? ⟨b7, 0, none⟩ = some (.bool false) := fun x => (L7.out.later x.below).cell 0 _ rfl
  have kL71 : ∀ x : Ext W6, x.w.cell? ⟨b7, 1, none⟩ = some (.string sb) := fun x => (L7.out.later x.below).cell 1 _ rfl
  have kL72 : ∀ x : Ext W6, x.w.cell? ⟨b7, 2, none⟩ = some (.slice none 0 0) := fun x => (L7.out.later x.below).cell 2 _ rfl
  have kL80 : ∀ x : Ext W6, x.w.cell? ⟨b8, 0, none⟩ = some (.int .u64 l0) := fun x => (L8.out.later x.below).cell 0 _ rfl
  have kL81 : ∀ x : Ext W6, x.w.cell? ⟨b8, 1, none⟩ = some (.int .u64 l1) := fun x => (L8.out.later x.below).cell 1 _ rfl
  have kL82 : ∀ x : Ext W6, x.w.cell? ⟨b8, 2, none⟩ = some (.int .u64 l2) := fun x => (L8.out.later x.below).cell 2 _ rfl
  have kL83 : ∀ x : Ext W6, x.w.cell? ⟨b8, 3, none⟩ = some (.int .u64 l3) := fun x => (L8.out.later x.below).cell 3 _ rfl
  clear LA LB L6 L7 L8 hT
  have hc1 := hc.out
  have hz1 := hz.out
  have hs1 := hs.out
  cases less with
  | true =>
    have hle1 := hle.out rfl
    try simp only [List.append]
    refine wp_region_quick (C := Grows W6) (by kernel_rfl) (by kernel_rfl) (by kernel_rfl) (grows_refl W6) ?_
    repeat (go_big_quiet_step (first | (with_reducible exact Ret.at d_same.out _)))
    refine wpQuiet_nil ?_
    rintro _ ⟨x, rfl⟩
    go_wp2
    go_ret
    exact ⟨rfl, Q.out.trans (x.below.mono Q.out.size)⟩
  | false =>
    try simp only [List.append]
    refine wp_region_quick (C := Grows W6) (by kernel_rfl) (by kernel_rfl) (by kernel_rfl) (grows_refl W6) ?_
    repeat (go_big_quiet_step (first | (with_reducible exact Ret.at d_same.out _)))
    refine wpQuiet_nil ?_
    rintro _ ⟨x, rfl⟩
    go_wp2
    go_ret
    exact ⟨rfl, Q.out.trans (x.below.mono Q.out.size)⟩

theorem sizeL (l : List UInt8) : (⟨l.toArray⟩ : ByteArray).size = l.length := by simp [ByteArray.size]
theorem num_inj {a b : Nat} : sameI (.mk false ⟨(digs a).toArray⟩ []) (.mk false ⟨(digs b).toArray⟩ []) = decide (a = b) := by
  by_cases h : a = b
  · subst h
    rw [same_self]
    simp
  · rw [same_not]
    · simpa using h
    · intro h'
      injection h' with _ h' _
      have h2 := congrArg (fun x : ByteArray => x.data.toList) h'
      simp only [List.toList_toArray] at h2
      have h3 := congrArg (val256 0) h2
      rw [val256_digs, val256_digs] at h3
      exact h h3
theorem odd_not (l : List UInt8) : valB (.mk false (⟨#[0]⟩ ++ ⟨l.toArray⟩) []) = false := by
  unfold valB
  refine same_not (fun h => ?_)
  injection h with _ h _
  have h2 := congrArg (fun x : ByteArray => x.data.toList) h
  simp only [List.toList_toArray, ByteArray.data_append, Array.toList_append] at h2
  have hb := digs_bare (valW (.mk false (⟨#[0]⟩ ++ ⟨l.toArray⟩) []))
  rw [← h2] at hb
  exact absurd rfl (hb 0 l rfl)

theorem lim_eqb {a b : Nat} (ha : W256 a) (hb : W256 b) : (lim a 0 == lim b 0 && lim a 1 == lim b 1 && lim a 2 == lim b 2 && lim a 3 == lim b 3) = decide (a = b) := by
  by_cases h : a = b
  · subst h
    simp
  · rw [decide_eq_false h]
    rcases hx : (lim a 0 == lim b 0 && lim a 1 == lim b 1 && lim a 2 == lim b 2 && lim a 3 == lim b 3) with _ | _
    · rfl
    · exfalso
      simp only [Bool.and_eq_true, beq_iff_eq] at hx
      obtain ⟨⟨⟨e0, e1⟩, e2⟩, e3⟩ := hx
      exact h (lim_ext ha hb (fun k hk => by
        obtain rfl | rfl | rfl | rfl : k = 0 ∨ k = 1 ∨ k = 2 ∨ k = 3 := by omega
        · exact e0
        · exact e1
        · exact e2
        · exact e3))
theorem lim_eqz {a : Nat} (ha : W256 a) : (lim a 0 == 0 && lim a 1 == 0 && lim a 2 == 0 && lim a 3 == 0) = decide (a = 0) := by
  have := lim_eqb ha (show W256 0 by unfold W256; omega)
  simp only [lim_zero] at this
  exact this

theorem numbers_ret (a b : Nat) (ha : W256 a) (hb : W256 b) (w : World) (hT : TabE w) : Calls Tryz.prog 5 #[wv a, wv b] w fun e w' => e = .returned (.bool true) ∧ Below w.heap.size w w' := by
  have la := digs_w ha
  have lb := digs_w hb
  have h1 := number_ret a ha
  have h2 := number_ret b hb
  have h3 : Ret Tryz.prog 17 #[txtV (digs a)] (.tuple #[wv a, .bool true]) := fun w => by
    have := value_any _ _ w (txt_at (digs a) (by omega) w)
    rwa [valN_digs ha, valB_digs ha] at this
  have e1 : (⟨#[0]⟩ ++ ⟨(digs a).toArray⟩ : ByteArray).size = 1 + (digs a).length := by rw [ByteArray.size_append, sizeL]; rfl
  have h4 : Ret Tryz.prog 17 #[.agg #[.bool false, .string (⟨#[0]⟩ ++ ⟨(digs a).toArray⟩), .slice none 0 0]] (.tuple #[wv 0, .bool false]) := fun w => by
    have := value_any (.mk false (⟨#[0]⟩ ++ ⟨(digs a).toArray⟩) []) (.agg #[.bool false, .string (⟨#[0]⟩ ++ ⟨(digs a).toArray⟩), .slice none 0 0]) w (by
      unfold ItemAt
      exact ⟨none, 0, rfl, by simp, by rw [e1]; omega, .inl rfl⟩)
    unfold valN at this
    rwa [odd_not] at this
  have h5 := refCmp_ret a b ha hb
  have h6 : Ret Tryz.prog 21 #[txtV (digs a), txtV (digs b)] (.bool (decide (a = b))) := fun w => by
    have := psame _ _ _ _ w (txt_at (digs a) (by omega) w) (txt_at (digs b) (by omega) w)
    rwa [num_inj] at this
  rw [wv_0] at h4
  unfold W4 at h4
  unfold wv at h1 h2 h3 h5 ⊢
  refine numbers_walk _ _ _ _ _ _ _ _ (wcmp a b) ⟨(digs a).toArray⟩ ⟨(digs b).toArray⟩ (decide (a = b)) (decide (a = 0)) (decide (wcmp a b < 0)) w hT h1 h2 h3 h4 h5 h6 rfl (by rw [sizeL]; exact la) (fun hl => ?_) ?_ ?_ ?_
  · rw [sizeL, sizeL]
    have : a < b := by
      have := of_decide_eq_true hl
      unfold wcmp at this
      split at this <;> omega
    have := digs_mono (Nat.le_of_lt this)
    omega
  · exact lim_eqb ha hb
  · exact lim_eqz ha
  · rw [sizeL]
    by_cases h : a = 0
    · subst h
      rw [digs_zero]
      rfl
    · have : (digs a).length ≠ 0 := fun h' => h (digs_nil.1 (List.length_eq_zero_iff.1 h'))
      rw [decide_eq_false h]
      simp only [beq_eq_false_iff_ne, ne_eq]
      omega

end Go.Proofs.YtlapajgmhclghaaGreatDoor
