/- The order of words: the law's walk over what the calls answer. -/
import Derived.Test.YtgejdkiehcpinaaDoorAwake
namespace Go.Proofs.YtgejdkiehcpinaaDoor
open Go Go.RowKit
attribute [local go_sem] Oper.semAt_some Grows wide_fn eq4

set_option maxRecDepth 100000 in
set_option maxHeartbeats 8000000 in
theorem order_walk (a b c x y : Nat → Int) (s t p q : ByteArray) (n m u v : Int) (eqv less : Bool)
    (hc : (n = -1 ∧ m = 1 ∧ eqv = false ∧ less = true) ∨ (n = 0 ∧ m = 0 ∧ eqv = true ∧ less = false ∧ q.size ≤ p.size) ∨ (n = 1 ∧ m = -1 ∧ eqv = false ∧ less = false ∧ q.size ≤ p.size))
    (he : (a 0 == b 0 && a 1 == b 1 && a 2 == b 2 && a 3 == b 3) = eqv) (hl : Op.bytesLess s.toList t.toList = less) (hps : p.size ≤ 66) (hqs : q.size ≤ 66)
    (h1 : Ret Tryd.prog 25 #[.agg #[.int .u64 (a 0), .int .u64 (a 1), .int .u64 (a 2), .int .u64 (a 3)], .agg #[.int .u64 (b 0), .int .u64 (b 1), .int .u64 (b 2), .int .u64 (b 3)]] (.int .i64 n))
    (h2 : Ret Tryd.prog 25 #[.agg #[.int .u64 (b 0), .int .u64 (b 1), .int .u64 (b 2), .int .u64 (b 3)], .agg #[.int .u64 (a 0), .int .u64 (a 1), .int .u64 (a 2), .int .u64 (a 3)]] (.int .i64 m))
    (h3 : Ret Tryd.prog 21 #[.agg #[.int .u64 (a 0), .int .u64 (a 1), .int .u64 (a 2), .int .u64 (a 3)]] (.string s))
    (h4 : Ret Tryd.prog 21 #[.agg #[.int .u64 (b 0), .int .u64 (b 1), .int .u64 (b 2), .int .u64 (b 3)]] (.string t))
    (h5 : Ret Tryd.prog 13 #[.agg #[.int .u64 (a 0), .int .u64 (a 1), .int .u64 (a 2), .int .u64 (a 3)], .agg #[.int .u64 (c 0), .int .u64 (c 1), .int .u64 (c 2), .int .u64 (c 3)]] (.agg #[.int .u64 (x 0), .int .u64 (x 1), .int .u64 (x 2), .int .u64 (x 3)]))
    (h6 : Ret Tryd.prog 13 #[.agg #[.int .u64 (b 0), .int .u64 (b 1), .int .u64 (b 2), .int .u64 (b 3)], .agg #[.int .u64 (c 0), .int .u64 (c 1), .int .u64 (c 2), .int .u64 (c 3)]] (.agg #[.int .u64 (y 0), .int .u64 (y 1), .int .u64 (y 2), .int .u64 (y 3)]))
    (h7 : Ret Tryd.prog 25 #[.agg #[.int .u64 (x 0), .int .u64 (x 1), .int .u64 (x 2), .int .u64 (x 3)], .agg #[.int .u64 (a 0), .int .u64 (a 1), .int .u64 (a 2), .int .u64 (a 3)]] (.int .i64 u))
    (h8 : Ret Tryd.prog 25 #[.agg #[.int .u64 (y 0), .int .u64 (y 1), .int .u64 (y 2), .int .u64 (y 3)], .agg #[.int .u64 (b 0), .int .u64 (b 1), .int .u64 (b 2), .int .u64 (b 3)]] (.int .i64 v))
    (h9 : Ret Tryd.prog 23 #[.agg #[.int .u64 (a 0), .int .u64 (a 1), .int .u64 (a 2), .int .u64 (a 3)]] (.string p))
    (h10 : Ret Tryd.prog 23 #[.agg #[.int .u64 (b 0), .int .u64 (b 1), .int .u64 (b 2), .int .u64 (b 3)]] (.string q))
    (h11 : ¬ u < 0 → ¬ v < 0 → Ret Tryd.prog 25 #[.agg #[.int .u64 (x 0), .int .u64 (x 1), .int .u64 (x 2), .int .u64 (x 3)], .agg #[.int .u64 (y 0), .int .u64 (y 1), .int .u64 (y 2), .int .u64 (y 3)]] (.int .i64 n)) :
    Ret Tryd.prog 6 #[.agg #[.int .u64 (a 0), .int .u64 (a 1), .int .u64 (a 2), .int .u64 (a 3)], .agg #[.int .u64 (b 0), .int .u64 (b 1), .int .u64 (b 2), .int .u64 (b 3)], .agg #[.int .u64 (c 0), .int .u64 (c 1), .int .u64 (c 2), .int .u64 (c 3)]] (.bool true) := by
  intro w
  have k1 := awake_ret
  have HC := Lib.hid hc
  have H11 := Lib.hid h11
  have HPS := Lib.hid (And.intro hps hqs)
  clear hc h11 hps hqs
  have LA := ((Lies.new w (a 0) (a 1) (a 2) (a 3)).alloc (.cells #[.int .u64 (b 0), .int .u64 (b 1), .int .u64 (b 2), .int .u64 (b 3)] 24)).alloc (.cells #[.int .u64 (c 0), .int .u64 (c 1), .int .u64 (c 2), .int .u64 (c 3)] 24)
  have LB := (Lies.new (w.alloc (.cells #[.int .u64 (a 0), .int .u64 (a 1), .int .u64 (a 2), .int .u64 (a 3)] 24)) (b 0) (b 1) (b 2) (b 3)).alloc (.cells #[.int .u64 (c 0), .int .u64 (c 1), .int .u64 (c 2), .int .u64 (c 3)] 24)
  have LC := Lies.new ((w.alloc (.cells #[.int .u64 (a 0), .int .u64 (a 1), .int .u64 (a 2), .int .u64 (a 3)] 24)).alloc (.cells #[.int .u64 (b 0), .int .u64 (b 1), .int .u64 (b 2), .int .u64 (b 3)] 24)) (c 0) (c 1) (c 2) (c 3)
  have BB := (((Below.refl _ w).alloc (Nat.le_refl _) (.cells #[.int .u64 (a 0), .int .u64 (a 1), .int .u64 (a 2), .int .u64 (a 3)] 24)).alloc (by simp) (.cells #[.int .u64 (b 0), .int .u64 (b 1), .int .u64 (b 2), .int .u64 (b 3)] 24)).alloc (by simp; omega) (.cells #[.int .u64 (c 0), .int .u64 (c 1), .int .u64 (c 2), .int .u64 (c 3)] 24)
  rw [World.size_alloc] at LB LC
  rw [World.size_alloc] at LC
  go_enter Tryd.func6, Tryd.ntmps6
  go_wp2_with fail
  obtain ⟨W0, hW0⟩ : ∃ W0, ((w.alloc (.cells #[.int .u64 (a 0), .int .u64 (a 1), .int .u64 (a 2), .int .u64 (a 3)] 24)).alloc (.cells #[.int .u64 (b 0), .int .u64 (b 1), .int .u64 (b 2), .int .u64 (b 3)] 24)).alloc (.cells #[.int .u64 (c 0), .int .u64 (c 1), .int .u64 (c 2), .int .u64 (c 3)] 24) = W0 := ⟨_, rfl⟩
  rw [hW0] at LA LB LC BB ⊢
  clear hW0
  refine (k1 _).mono ?_
  rintro e w1 ⟨rfl, q1⟩
  have LA := LA.later q1
  have LB := LB.later q1
  have LC := LC.later q1
  have BB := BB.trans (q1.mono BB.size)
  clear q1 k1
  obtain ⟨ma0, ma1, ma2, ma3⟩ := And.intro LA.c0 (And.intro LA.c1 (And.intro LA.c2 LA.c3))
  obtain ⟨mb0, mb1, mb2, mb3⟩ := And.intro LB.c0 (And.intro LB.c1 (And.intro LB.c2 LB.c3))
  go_wp2_with fail
  clear ma0 ma1 ma2 ma3 mb0 mb1 mb2 mb3
  refine (h1 _).mono ?_
  rintro e W1 ⟨rfl, q1⟩
  have LA := LA.later q1
  have LB := LB.later q1
  have LC := LC.later q1
  have BB := BB.trans (q1.mono BB.size)
  clear q1 h1
  rcases HC.out with ⟨rfl, rfl, rfl, rfl⟩ | ⟨rfl, rfl, rfl, rfl, hsz⟩ | ⟨rfl, rfl, rfl, rfl, hsz⟩
  all_goals clear HC
  · go_wp2_with fail
    have fA0 : ∀ x : Ext W1, x.w.cell? ⟨w.heap.size, 0, none⟩ = some (.int .u64 (a 0)) := fun x => (LA.later x.below).c0
    have fA1 : ∀ x : Ext W1, x.w.cell? ⟨w.heap.size, 1, none⟩ = some (.int .u64 (a 1)) := fun x => (LA.later x.below).c1
    have fA2 : ∀ x : Ext W1, x.w.cell? ⟨w.heap.size, 2, none⟩ = some (.int .u64 (a 2)) := fun x => (LA.later x.below).c2
    have fA3 : ∀ x : Ext W1, x.w.cell? ⟨w.heap.size, 3, none⟩ = some (.int .u64 (a 3)) := fun x => (LA.later x.below).c3
    have fB0 : ∀ x : Ext W1, x.w.cell? ⟨w.heap.size + 1, 0, none⟩ = some (.int .u64 (b 0)) := fun x => (LB.later x.below).c0
    have fB1 : ∀ x : Ext W1, x.w.cell? ⟨w.heap.size + 1, 1, none⟩ = some (.int .u64 (b 1)) := fun x => (LB.later x.below).c1
    have fB2 : ∀ x : Ext W1, x.w.cell? ⟨w.heap.size + 1, 2, none⟩ = some (.int .u64 (b 2)) := fun x => (LB.later x.below).c2
    have fB3 : ∀ x : Ext W1, x.w.cell? ⟨w.heap.size + 1, 3, none⟩ = some (.int .u64 (b 3)) := fun x => (LB.later x.below).c3
    refine wp_region_quietL (C := Grows W1) (by kernel_rfl) (by kernel_rfl) (grows_refl W1) ?_
    repeat (go_big_quiet_step (first | (with_reducible exact Ret.at h2 _) | (with_reducible exact Ret.at h3 _) | (with_reducible exact Ret.at h4 _)))
    refine wpQuiet_nil ?_
    rintro _ ⟨xx, rfl⟩
    have LA := LA.later xx.below
    have LB := LB.later xx.below
    have LC := LC.later xx.below
    have BB := BB.trans (xx.below.mono BB.size)
    clear fA0 fA1 fA2 fA3 fB0 fB1 fB2 fB3 he hl h2 h3 h4
    generalize xx.w = W2 at *
    obtain ⟨ma0, ma1, ma2, ma3⟩ := And.intro LA.c0 (And.intro LA.c1 (And.intro LA.c2 LA.c3))
    obtain ⟨mc0, mc1, mc2, mc3⟩ := And.intro LC.c0 (And.intro LC.c1 (And.intro LC.c2 LC.c3))
    go_wp2_with fail
    clear ma0 ma1 ma2 ma3 mc0 mc1 mc2 mc3
    refine (h5 _).mono ?_
    rintro e w3 ⟨rfl, q1⟩
    have LA := (LA.later q1).alloc (.cells #[.int .u64 (x 0), .int .u64 (x 1), .int .u64 (x 2), .int .u64 (x 3)] 24)
    have LB := (LB.later q1).alloc (.cells #[.int .u64 (x 0), .int .u64 (x 1), .int .u64 (x 2), .int .u64 (x 3)] 24)
    have LC := (LC.later q1).alloc (.cells #[.int .u64 (x 0), .int .u64 (x 1), .int .u64 (x 2), .int .u64 (x 3)] 24)
    have LX := Lies.new w3 (x 0) (x 1) (x 2) (x 3)
    have BB' := BB.trans (q1.mono BB.size)
    have BB := BB'.alloc BB'.size (.cells #[.int .u64 (x 0), .int .u64 (x 1), .int .u64 (x 2), .int .u64 (x 3)] 24)
    clear q1 h5 BB'
    obtain ⟨mb0, mb1, mb2, mb3⟩ := And.intro LB.c0 (And.intro LB.c1 (And.intro LB.c2 LB.c3))
    obtain ⟨mc0, mc1, mc2, mc3⟩ := And.intro LC.c0 (And.intro LC.c1 (And.intro LC.c2 LC.c3))
    go_wp2_with fail
    clear mb0 mb1 mb2 mb3 mc0 mc1 mc2 mc3
    obtain ⟨W3, hW3⟩ : ∃ W3, w3.alloc (.cells #[.int .u64 (x 0), .int .u64 (x 1), .int .u64 (x 2), .int .u64 (x 3)] 24) = W3 := ⟨_, rfl⟩
    rw [hW3] at LA LB LC LX BB ⊢
    clear hW3
    generalize w3.heap.size = bX at *
    refine (h6 _).mono ?_
    rintro e w4 ⟨rfl, q1⟩
    have LA := (LA.later q1).alloc (.cells #[.int .u64 (y 0), .int .u64 (y 1), .int .u64 (y 2), .int .u64 (y 3)] 24)
    have LB := (LB.later q1).alloc (.cells #[.int .u64 (y 0), .int .u64 (y 1), .int .u64 (y 2), .int .u64 (y 3)] 24)
    have LX := (LX.later q1).alloc (.cells #[.int .u64 (y 0), .int .u64 (y 1), .int .u64 (y 2), .int .u64 (y 3)] 24)
    have LY := Lies.new w4 (y 0) (y 1) (y 2) (y 3)
    have BB' := BB.trans (q1.mono BB.size)
    have BB := BB'.alloc BB'.size (.cells #[.int .u64 (y 0), .int .u64 (y 1), .int .u64 (y 2), .int .u64 (y 3)] 24)
    clear q1 h6 BB' LC
    obtain ⟨ma0, ma1, ma2, ma3⟩ := And.intro LA.c0 (And.intro LA.c1 (And.intro LA.c2 LA.c3))
    obtain ⟨mx0, mx1, mx2, mx3⟩ := And.intro LX.c0 (And.intro LX.c1 (And.intro LX.c2 LX.c3))
    go_wp2_with fail
    clear ma0 ma1 ma2 ma3 mx0 mx1 mx2 mx3
    obtain ⟨W4, hW4⟩ : ∃ W4, w4.alloc (.cells #[.int .u64 (y 0), .int .u64 (y 1), .int .u64 (y 2), .int .u64 (y 3)] 24) = W4 := ⟨_, rfl⟩
    rw [hW4] at LA LB LX LY BB ⊢
    clear hW4
    generalize w4.heap.size = bY at *
    refine (h7 _).mono ?_
    rintro e W5 ⟨rfl, q1⟩
    have LA := LA.later q1
    have LB := LB.later q1
    have LX := LX.later q1
    have LY := LY.later q1
    have BB := BB.trans (q1.mono BB.size)
    clear q1 h7
    by_cases hu : u < 0
    · clear h8 H11
      obtain ⟨ma0, ma1, ma2, ma3⟩ := And.intro LA.c0 (And.intro LA.c1 (And.intro LA.c2 LA.c3))
      go_wp2_with fail
      clear ma0 ma1 ma2 ma3
      refine (h9 _).mono ?_
      rintro e W6 ⟨rfl, q1⟩
      have LB := LB.later q1
      have LX := LX.later q1
      have LY := LY.later q1
      have BB := BB.trans (q1.mono BB.size)
      clear q1 LA h9
      obtain ⟨mb0, mb1, mb2, mb3⟩ := And.intro LB.c0 (And.intro LB.c1 (And.intro LB.c2 LB.c3))
      go_wp2_with fail
      clear mb0 mb1 mb2 mb3
      refine (h10 _).mono ?_
      rintro e W7 ⟨rfl, q1⟩
      have LX := LX.later q1
      have LY := LY.later q1
      have BB := BB.trans (q1.mono BB.size)
      clear q1 LB h10
      have BF := Lib.hid BB
      clear BB LX LY
      by_cases hpq : (q.size : Int) ≤ (p.size : Int)
      · go_wp2
        go_ret
        exact ⟨rfl, BF.out⟩
      · go_wp2
        go_ret
        exact ⟨rfl, BF.out⟩
    · obtain ⟨mb0, mb1, mb2, mb3⟩ := And.intro LB.c0 (And.intro LB.c1 (And.intro LB.c2 LB.c3))
      obtain ⟨my0, my1, my2, my3⟩ := And.intro LY.c0 (And.intro LY.c1 (And.intro LY.c2 LY.c3))
      go_wp2_with fail
      clear mb0 mb1 mb2 mb3 my0 my1 my2 my3
      refine (h8 _).mono ?_
      rintro e W5 ⟨rfl, q1⟩
      have LA := LA.later q1
      have LB := LB.later q1
      have LX := LX.later q1
      have LY := LY.later q1
      have BB := BB.trans (q1.mono BB.size)
      clear q1 h8
      by_cases hv : v < 0
      · clear H11
        obtain ⟨ma0, ma1, ma2, ma3⟩ := And.intro LA.c0 (And.intro LA.c1 (And.intro LA.c2 LA.c3))
        go_wp2_with fail
        clear ma0 ma1 ma2 ma3
        refine (h9 _).mono ?_
        rintro e W6 ⟨rfl, q1⟩
        have LB := LB.later q1
        have LX := LX.later q1
        have LY := LY.later q1
        have BB := BB.trans (q1.mono BB.size)
        clear q1 LA h9
        obtain ⟨mb0, mb1, mb2, mb3⟩ := And.intro LB.c0 (And.intro LB.c1 (And.intro LB.c2 LB.c3))
        go_wp2_with fail
        clear mb0 mb1 mb2 mb3
        refine (h10 _).mono ?_
        rintro e W7 ⟨rfl, q1⟩
        have LX := LX.later q1
        have LY := LY.later q1
        have BB := BB.trans (q1.mono BB.size)
        clear q1 LB h10
        have BF := Lib.hid BB
        clear BB LX LY
        by_cases hpq : (q.size : Int) ≤ (p.size : Int)
        · go_wp2
          go_ret
          exact ⟨rfl, BF.out⟩
        · go_wp2
          go_ret
          exact ⟨rfl, BF.out⟩
      · have h12 := H11.out (by omega) (by omega)
        clear H11
        obtain ⟨ma0, ma1, ma2, ma3⟩ := And.intro LA.c0 (And.intro LA.c1 (And.intro LA.c2 LA.c3))
        go_wp2_with fail
        clear ma0 ma1 ma2 ma3
        refine (h9 _).mono ?_
        rintro e W6 ⟨rfl, q1⟩
        have LB := LB.later q1
        have LX := LX.later q1
        have LY := LY.later q1
        have BB := BB.trans (q1.mono BB.size)
        clear q1 LA h9
        obtain ⟨mb0, mb1, mb2, mb3⟩ := And.intro LB.c0 (And.intro LB.c1 (And.intro LB.c2 LB.c3))
        go_wp2_with fail
        clear mb0 mb1 mb2 mb3
        refine (h10 _).mono ?_
        rintro e W7 ⟨rfl, q1⟩
        have LX := LX.later q1
        have LY := LY.later q1
        have BB := BB.trans (q1.mono BB.size)
        clear q1 LB h10
        obtain ⟨mx0, mx1, mx2, mx3⟩ := And.intro LX.c0 (And.intro LX.c1 (And.intro LX.c2 LX.c3))
        obtain ⟨my0, my1, my2, my3⟩ := And.intro LY.c0 (And.intro LY.c1 (And.intro LY.c2 LY.c3))
        have BF := Lib.hid BB
        clear BB LX LY
        by_cases hpq : (q.size : Int) ≤ (p.size : Int)
        · go_wp2_with fail
          refine (h12 _).mono ?_
          rintro e W8 ⟨rfl, q1⟩
          go_wp2
          go_ret
          exact ⟨rfl, BF.out.trans (q1.mono BF.out.size)⟩
        · go_wp2_with fail
          refine (h12 _).mono ?_
          rintro e W8 ⟨rfl, q1⟩
          go_wp2
          go_ret
          exact ⟨rfl, BF.out.trans (q1.mono BF.out.size)⟩
  · go_wp2_with fail
    have fA0 : ∀ x : Ext W1, x.w.cell? ⟨w.heap.size, 0, none⟩ = some (.int .u64 (a 0)) := fun x => (LA.later x.below).c0
    have fA1 : ∀ x : Ext W1, x.w.cell? ⟨w.heap.size, 1, none⟩ = some (.int .u64 (a 1)) := fun x => (LA.later x.below).c1
    have fA2 : ∀ x : Ext W1, x.w.cell? ⟨w.heap.size, 2, none⟩ = some (.int .u64 (a 2)) := fun x => (LA.later x.below).c2
    have fA3 : ∀ x : Ext W1, x.w.cell? ⟨w.heap.size, 3, none⟩ = some (.int .u64 (a 3)) := fun x => (LA.later x.below).c3
    have fB0 : ∀ x : Ext W1, x.w.cell? ⟨w.heap.size + 1, 0, none⟩ = some (.int .u64 (b 0)) := fun x => (LB.later x.below).c0
    have fB1 : ∀ x : Ext W1, x.w.cell? ⟨w.heap.size + 1, 1, none⟩ = some (.int .u64 (b 1)) := fun x => (LB.later x.below).c1
    have fB2 : ∀ x : Ext W1, x.w.cell? ⟨w.heap.size + 1, 2, none⟩ = some (.int .u64 (b 2)) := fun x => (LB.later x.below).c2
    have fB3 : ∀ x : Ext W1, x.w.cell? ⟨w.heap.size + 1, 3, none⟩ = some (.int .u64 (b 3)) := fun x => (LB.later x.below).c3
    refine wp_region_quietL (C := Grows W1) (by kernel_rfl) (by kernel_rfl) (grows_refl W1) ?_
    repeat (go_big_quiet_step (first | (with_reducible exact Ret.at h2 _) | (with_reducible exact Ret.at h3 _) | (with_reducible exact Ret.at h4 _)))
    refine wpQuiet_nil ?_
    rintro _ ⟨xx, rfl⟩
    have LA := LA.later xx.below
    have LB := LB.later xx.below
    have LC := LC.later xx.below
    have BB := BB.trans (xx.below.mono BB.size)
    clear fA0 fA1 fA2 fA3 fB0 fB1 fB2 fB3 he hl h2 h3 h4
    generalize xx.w = W2 at *
    obtain ⟨ma0, ma1, ma2, ma3⟩ := And.intro LA.c0 (And.intro LA.c1 (And.intro LA.c2 LA.c3))
    obtain ⟨mc0, mc1, mc2, mc3⟩ := And.intro LC.c0 (And.intro LC.c1 (And.intro LC.c2 LC.c3))
    go_wp2_with fail
    clear ma0 ma1 ma2 ma3 mc0 mc1 mc2 mc3
    refine (h5 _).mono ?_
    rintro e w3 ⟨rfl, q1⟩
    have LA := (LA.later q1).alloc (.cells #[.int .u64 (x 0), .int .u64 (x 1), .int .u64 (x 2), .int .u64 (x 3)] 24)
    have LB := (LB.later q1).alloc (.cells #[.int .u64 (x 0), .int .u64 (x 1), .int .u64 (x 2), .int .u64 (x 3)] 24)
    have LC := (LC.later q1).alloc (.cells #[.int .u64 (x 0), .int .u64 (x 1), .int .u64 (x 2), .int .u64 (x 3)] 24)
    have LX := Lies.new w3 (x 0) (x 1) (x 2) (x 3)
    have BB' := BB.trans (q1.mono BB.size)
    have BB := BB'.alloc BB'.size (.cells #[.int .u64 (x 0), .int .u64 (x 1), .int .u64 (x 2), .int .u64 (x 3)] 24)
    clear q1 h5 BB'
    obtain ⟨mb0, mb1, mb2, mb3⟩ := And.intro LB.c0 (And.intro LB.c1 (And.intro LB.c2 LB.c3))
    obtain ⟨mc0, mc1, mc2, mc3⟩ := And.intro LC.c0 (And.intro LC.c1 (And.intro LC.c2 LC.c3))
    go_wp2_with fail
    clear mb0 mb1 mb2 mb3 mc0 mc1 mc2 mc3
    obtain ⟨W3, hW3⟩ : ∃ W3, w3.alloc (.cells #[.int .u64 (x 0), .int .u64 (x 1), .int .u64 (x 2), .int .u64 (x 3)] 24) = W3 := ⟨_, rfl⟩
    rw [hW3] at LA LB LC LX BB ⊢
    clear hW3
    generalize w3.heap.size = bX at *
    refine (h6 _).mono ?_
    rintro e w4 ⟨rfl, q1⟩
    have LA := (LA.later q1).alloc (.cells #[.int .u64 (y 0), .int .u64 (y 1), .int .u64 (y 2), .int .u64 (y 3)] 24)
    have LB := (LB.later q1).alloc (.cells #[.int .u64 (y 0), .int .u64 (y 1), .int .u64 (y 2), .int .u64 (y 3)] 24)
    have LX := (LX.later q1).alloc (.cells #[.int .u64 (y 0), .int .u64 (y 1), .int .u64 (y 2), .int .u64 (y 3)] 24)
    have LY := Lies.new w4 (y 0) (y 1) (y 2) (y 3)
    have BB' := BB.trans (q1.mono BB.size)
    have BB := BB'.alloc BB'.size (.cells #[.int .u64 (y 0), .int .u64 (y 1), .int .u64 (y 2), .int .u64 (y 3)] 24)
    clear q1 h6 BB' LC
    obtain ⟨ma0, ma1, ma2, ma3⟩ := And.intro LA.c0 (And.intro LA.c1 (And.intro LA.c2 LA.c3))
    obtain ⟨mx0, mx1, mx2, mx3⟩ := And.intro LX.c0 (And.intro LX.c1 (And.intro LX.c2 LX.c3))
    go_wp2_with fail
    clear ma0 ma1 ma2 ma3 mx0 mx1 mx2 mx3
    obtain ⟨W4, hW4⟩ : ∃ W4, w4.alloc (.cells #[.int .u64 (y 0), .int .u64 (y 1), .int .u64 (y 2), .int .u64 (y 3)] 24) = W4 := ⟨_, rfl⟩
    rw [hW4] at LA LB LX LY BB ⊢
    clear hW4
    generalize w4.heap.size = bY at *
    refine (h7 _).mono ?_
    rintro e W5 ⟨rfl, q1⟩
    have LA := LA.later q1
    have LB := LB.later q1
    have LX := LX.later q1
    have LY := LY.later q1
    have BB := BB.trans (q1.mono BB.size)
    clear q1 h7
    by_cases hu : u < 0
    · clear h8 H11
      obtain ⟨ma0, ma1, ma2, ma3⟩ := And.intro LA.c0 (And.intro LA.c1 (And.intro LA.c2 LA.c3))
      go_wp2_with fail
      clear ma0 ma1 ma2 ma3
      refine (h9 _).mono ?_
      rintro e W6 ⟨rfl, q1⟩
      have LB := LB.later q1
      have LX := LX.later q1
      have LY := LY.later q1
      have BB := BB.trans (q1.mono BB.size)
      clear q1 LA h9
      obtain ⟨mb0, mb1, mb2, mb3⟩ := And.intro LB.c0 (And.intro LB.c1 (And.intro LB.c2 LB.c3))
      go_wp2_with fail
      clear mb0 mb1 mb2 mb3
      refine (h10 _).mono ?_
      rintro e W7 ⟨rfl, q1⟩
      have LX := LX.later q1
      have LY := LY.later q1
      have BB := BB.trans (q1.mono BB.size)
      clear q1 LB h10
      have BF := Lib.hid BB
      clear BB LX LY
      have hpq : (q.size : Int) ≤ (p.size : Int) := by omega
      clear hsz
      go_wp2
      go_ret
      exact ⟨rfl, BF.out⟩
    · obtain ⟨mb0, mb1, mb2, mb3⟩ := And.intro LB.c0 (And.intro LB.c1 (And.intro LB.c2 LB.c3))
      obtain ⟨my0, my1, my2, my3⟩ := And.intro LY.c0 (And.intro LY.c1 (And.intro LY.c2 LY.c3))
      go_wp2_with fail
      clear mb0 mb1 mb2 mb3 my0 my1 my2 my3
      refine (h8 _).mono ?_
      rintro e W5 ⟨rfl, q1⟩
      have LA := LA.later q1
      have LB := LB.later q1
      have LX := LX.later q1
      have LY := LY.later q1
      have BB := BB.trans (q1.mono BB.size)
      clear q1 h8
      by_cases hv : v < 0
      · clear H11
        obtain ⟨ma0, ma1, ma2, ma3⟩ := And.intro LA.c0 (And.intro LA.c1 (And.intro LA.c2 LA.c3))
        go_wp2_with fail
        clear ma0 ma1 ma2 ma3
        refine (h9 _).mono ?_
        rintro e W6 ⟨rfl, q1⟩
        have LB := LB.later q1
        have LX := LX.later q1
        have LY := LY.later q1
        have BB := BB.trans (q1.mono BB.size)
        clear q1 LA h9
        obtain ⟨mb0, mb1, mb2, mb3⟩ := And.intro LB.c0 (And.intro LB.c1 (And.intro LB.c2 LB.c3))
        go_wp2_with fail
        clear mb0 mb1 mb2 mb3
        refine (h10 _).mono ?_
        rintro e W7 ⟨rfl, q1⟩
        have LX := LX.later q1
        have LY := LY.later q1
        have BB := BB.trans (q1.mono BB.size)
        clear q1 LB h10
        have BF := Lib.hid BB
        clear BB LX LY
        have hpq : (q.size : Int) ≤ (p.size : Int) := by omega
        clear hsz
        go_wp2
        go_ret
        exact ⟨rfl, BF.out⟩
      · have h12 := H11.out (by omega) (by omega)
        clear H11
        obtain ⟨ma0, ma1, ma2, ma3⟩ := And.intro LA.c0 (And.intro LA.c1 (And.intro LA.c2 LA.c3))
        go_wp2_with fail
        clear ma0 ma1 ma2 ma3
        refine (h9 _).mono ?_
        rintro e W6 ⟨rfl, q1⟩
        have LB := LB.later q1
        have LX := LX.later q1
        have LY := LY.later q1
        have BB := BB.trans (q1.mono BB.size)
        clear q1 LA h9
        obtain ⟨mb0, mb1, mb2, mb3⟩ := And.intro LB.c0 (And.intro LB.c1 (And.intro LB.c2 LB.c3))
        go_wp2_with fail
        clear mb0 mb1 mb2 mb3
        refine (h10 _).mono ?_
        rintro e W7 ⟨rfl, q1⟩
        have LX := LX.later q1
        have LY := LY.later q1
        have BB := BB.trans (q1.mono BB.size)
        clear q1 LB h10
        obtain ⟨mx0, mx1, mx2, mx3⟩ := And.intro LX.c0 (And.intro LX.c1 (And.intro LX.c2 LX.c3))
        obtain ⟨my0, my1, my2, my3⟩ := And.intro LY.c0 (And.intro LY.c1 (And.intro LY.c2 LY.c3))
        have BF := Lib.hid BB
        clear BB LX LY
        have hpq : (q.size : Int) ≤ (p.size : Int) := by omega
        clear hsz
        go_wp2_with fail
        refine (h12 _).mono ?_
        rintro e W8 ⟨rfl, q1⟩
        go_wp2
        go_ret
        exact ⟨rfl, BF.out.trans (q1.mono BF.out.size)⟩
  · go_wp2_with fail
    have fA0 : ∀ x : Ext W1, x.w.cell? ⟨w.heap.size, 0, none⟩ = some (.int .u64 (a 0)) := fun x => (LA.later x.below).c0
    have fA1 : ∀ x : Ext W1, x.w.cell? ⟨w.heap.size, 1, none⟩ = some (.int .u64 (a 1)) := fun x => (LA.later x.below).c1
    have fA2 : ∀ x : Ext W1, x.w.cell? ⟨w.heap.size, 2, none⟩ = some (.int .u64 (a 2)) := fun x => (LA.later x.below).c2
    have fA3 : ∀ x : Ext W1, x.w.cell? ⟨w.heap.size, 3, none⟩ = some (.int .u64 (a 3)) := fun x => (LA.later x.below).c3
    have fB0 : ∀ x : Ext W1, x.w.cell? ⟨w.heap.size + 1, 0, none⟩ = some (.int .u64 (b 0)) := fun x => (LB.later x.below).c0
    have fB1 : ∀ x : Ext W1, x.w.cell? ⟨w.heap.size + 1, 1, none⟩ = some (.int .u64 (b 1)) := fun x => (LB.later x.below).c1
    have fB2 : ∀ x : Ext W1, x.w.cell? ⟨w.heap.size + 1, 2, none⟩ = some (.int .u64 (b 2)) := fun x => (LB.later x.below).c2
    have fB3 : ∀ x : Ext W1, x.w.cell? ⟨w.heap.size + 1, 3, none⟩ = some (.int .u64 (b 3)) := fun x => (LB.later x.below).c3
    refine wp_region_quietL (C := Grows W1) (by kernel_rfl) (by kernel_rfl) (grows_refl W1) ?_
    repeat (go_big_quiet_step (first | (with_reducible exact Ret.at h2 _) | (with_reducible exact Ret.at h3 _) | (with_reducible exact Ret.at h4 _)))
    refine wpQuiet_nil ?_
    rintro _ ⟨xx, rfl⟩
    have LA := LA.later xx.below
    have LB := LB.later xx.below
    have LC := LC.later xx.below
    have BB := BB.trans (xx.below.mono BB.size)
    clear fA0 fA1 fA2 fA3 fB0 fB1 fB2 fB3 he hl h2 h3 h4
    generalize xx.w = W2 at *
    obtain ⟨ma0, ma1, ma2, ma3⟩ := And.intro LA.c0 (And.intro LA.c1 (And.intro LA.c2 LA.c3))
    obtain ⟨mc0, mc1, mc2, mc3⟩ := And.intro LC.c0 (And.intro LC.c1 (And.intro LC.c2 LC.c3))
    go_wp2_with fail
    clear ma0 ma1 ma2 ma3 mc0 mc1 mc2 mc3
    refine (h5 _).mono ?_
    rintro e w3 ⟨rfl, q1⟩
    have LA := (LA.later q1).alloc (.cells #[.int .u64 (x 0), .int .u64 (x 1), .int .u64 (x 2), .int .u64 (x 3)] 24)
    have LB := (LB.later q1).alloc (.cells #[.int .u64 (x 0), .int .u64 (x 1), .int .u64 (x 2), .int .u64 (x 3)] 24)
    have LC := (LC.later q1).alloc (.cells #[.int .u64 (x 0), .int .u64 (x 1), .int .u64 (x 2), .int .u64 (x 3)] 24)
    have LX := Lies.new w3 (x 0) (x 1) (x 2) (x 3)
    have BB' := BB.trans (q1.mono BB.size)
    have BB := BB'.alloc BB'.size (.cells #[.int .u64 (x 0), .int .u64 (x 1), .int .u64 (x 2), .int .u64 (x 3)] 24)
    clear q1 h5 BB'
    obtain ⟨mb0, mb1, mb2, mb3⟩ := And.intro LB.c0 (And.intro LB.c1 (And.intro LB.c2 LB.c3))
    obtain ⟨mc0, mc1, mc2, mc3⟩ := And.intro LC.c0 (And.intro LC.c1 (And.intro LC.c2 LC.c3))
    go_wp2_with fail
    clear mb0 mb1 mb2 mb3 mc0 mc1 mc2 mc3
    obtain ⟨W3, hW3⟩ : ∃ W3, w3.alloc (.cells #[.int .u64 (x 0), .int .u64 (x 1), .int .u64 (x 2), .int .u64 (x 3)] 24) = W3 := ⟨_, rfl⟩
    rw [hW3] at LA LB LC LX BB ⊢
    clear hW3
    generalize w3.heap.size = bX at *
    refine (h6 _).mono ?_
    rintro e w4 ⟨rfl, q1⟩
    have LA := (LA.later q1).alloc (.cells #[.int .u64 (y 0), .int .u64 (y 1), .int .u64 (y 2), .int .u64 (y 3)] 24)
    have LB := (LB.later q1).alloc (.cells #[.int .u64 (y 0), .int .u64 (y 1), .int .u64 (y 2), .int .u64 (y 3)] 24)
    have LX := (LX.later q1).alloc (.cells #[.int .u64 (y 0), .int .u64 (y 1), .int .u64 (y 2), .int .u64 (y 3)] 24)
    have LY := Lies.new w4 (y 0) (y 1) (y 2) (y 3)
    have BB' := BB.trans (q1.mono BB.size)
    have BB := BB'.alloc BB'.size (.cells #[.int .u64 (y 0), .int .u64 (y 1), .int .u64 (y 2), .int .u64 (y 3)] 24)
    clear q1 h6 BB' LC
    obtain ⟨ma0, ma1, ma2, ma3⟩ := And.intro LA.c0 (And.intro LA.c1 (And.intro LA.c2 LA.c3))
    obtain ⟨mx0, mx1, mx2, mx3⟩ := And.intro LX.c0 (And.intro LX.c1 (And.intro LX.c2 LX.c3))
    go_wp2_with fail
    clear ma0 ma1 ma2 ma3 mx0 mx1 mx2 mx3
    obtain ⟨W4, hW4⟩ : ∃ W4, w4.alloc (.cells #[.int .u64 (y 0), .int .u64 (y 1), .int .u64 (y 2), .int .u64 (y 3)] 24) = W4 := ⟨_, rfl⟩
    rw [hW4] at LA LB LX LY BB ⊢
    clear hW4
    generalize w4.heap.size = bY at *
    refine (h7 _).mono ?_
    rintro e W5 ⟨rfl, q1⟩
    have LA := LA.later q1
    have LB := LB.later q1
    have LX := LX.later q1
    have LY := LY.later q1
    have BB := BB.trans (q1.mono BB.size)
    clear q1 h7
    by_cases hu : u < 0
    · clear h8 H11
      obtain ⟨ma0, ma1, ma2, ma3⟩ := And.intro LA.c0 (And.intro LA.c1 (And.intro LA.c2 LA.c3))
      go_wp2_with fail
      clear ma0 ma1 ma2 ma3
      refine (h9 _).mono ?_
      rintro e W6 ⟨rfl, q1⟩
      have LB := LB.later q1
      have LX := LX.later q1
      have LY := LY.later q1
      have BB := BB.trans (q1.mono BB.size)
      clear q1 LA h9
      obtain ⟨mb0, mb1, mb2, mb3⟩ := And.intro LB.c0 (And.intro LB.c1 (And.intro LB.c2 LB.c3))
      go_wp2_with fail
      clear mb0 mb1 mb2 mb3
      refine (h10 _).mono ?_
      rintro e W7 ⟨rfl, q1⟩
      have LX := LX.later q1
      have LY := LY.later q1
      have BB := BB.trans (q1.mono BB.size)
      clear q1 LB h10
      have BF := Lib.hid BB
      clear BB LX LY
      have hpq : (q.size : Int) ≤ (p.size : Int) := by omega
      clear hsz
      go_wp2
      go_ret
      exact ⟨rfl, BF.out⟩
    · obtain ⟨mb0, mb1, mb2, mb3⟩ := And.intro LB.c0 (And.intro LB.c1 (And.intro LB.c2 LB.c3))
      obtain ⟨my0, my1, my2, my3⟩ := And.intro LY.c0 (And.intro LY.c1 (And.intro LY.c2 LY.c3))
      go_wp2_with fail
      clear mb0 mb1 mb2 mb3 my0 my1 my2 my3
      refine (h8 _).mono ?_
      rintro e W5 ⟨rfl, q1⟩
      have LA := LA.later q1
      have LB := LB.later q1
      have LX := LX.later q1
      have LY := LY.later q1
      have BB := BB.trans (q1.mono BB.size)
      clear q1 h8
      by_cases hv : v < 0
      · clear H11
        obtain ⟨ma0, ma1, ma2, ma3⟩ := And.intro LA.c0 (And.intro LA.c1 (And.intro LA.c2 LA.c3))
        go_wp2_with fail
        clear ma0 ma1 ma2 ma3
        refine (h9 _).mono ?_
        rintro e W6 ⟨rfl, q1⟩
        have LB := LB.later q1
        have LX := LX.later q1
        have LY := LY.later q1
        have BB := BB.trans (q1.mono BB.size)
        clear q1 LA h9
        obtain ⟨mb0, mb1, mb2, mb3⟩ := And.intro LB.c0 (And.intro LB.c1 (And.intro LB.c2 LB.c3))
        go_wp2_with fail
        clear mb0 mb1 mb2 mb3
        refine (h10 _).mono ?_
        rintro e W7 ⟨rfl, q1⟩
        have LX := LX.later q1
        have LY := LY.later q1
        have BB := BB.trans (q1.mono BB.size)
        clear q1 LB h10
        have BF := Lib.hid BB
        clear BB LX LY
        have hpq : (q.size : Int) ≤ (p.size : Int) := by omega
        clear hsz
        go_wp2
        go_ret
        exact ⟨rfl, BF.out⟩
      · have h12 := H11.out (by omega) (by omega)
        clear H11
        obtain ⟨ma0, ma1, ma2, ma3⟩ := And.intro LA.c0 (And.intro LA.c1 (And.intro LA.c2 LA.c3))
        go_wp2_with fail
        clear ma0 ma1 ma2 ma3
        refine (h9 _).mono ?_
        rintro e W6 ⟨rfl, q1⟩
        have LB := LB.later q1
        have LX := LX.later q1
        have LY := LY.later q1
        have BB := BB.trans (q1.mono BB.size)
        clear q1 LA h9
        obtain ⟨mb0, mb1, mb2, mb3⟩ := And.intro LB.c0 (And.intro LB.c1 (And.intro LB.c2 LB.c3))
        go_wp2_with fail
        clear mb0 mb1 mb2 mb3
        refine (h10 _).mono ?_
        rintro e W7 ⟨rfl, q1⟩
        have LX := LX.later q1
        have LY := LY.later q1
        have BB := BB.trans (q1.mono BB.size)
        clear q1 LB h10
        obtain ⟨mx0, mx1, mx2, mx3⟩ := And.intro LX.c0 (And.intro LX.c1 (And.intro LX.c2 LX.c3))
        obtain ⟨my0, my1, my2, my3⟩ := And.intro LY.c0 (And.intro LY.c1 (And.intro LY.c2 LY.c3))
        have BF := Lib.hid BB
        clear BB LX LY
        have hpq : (q.size : Int) ≤ (p.size : Int) := by omega
        clear hsz
        go_wp2_with fail
        refine (h12 _).mono ?_
        rintro e W8 ⟨rfl, q1⟩
        go_wp2
        go_ret
        exact ⟨rfl, BF.out.trans (q1.mono BF.out.size)⟩
end Go.Proofs.YtgejdkiehcpinaaDoor
