/- Sums and products of words may be turned: the law's walk over what the calls answer. -/
import Derived.Test.YtgejdkiehcpinaaDoorAwake
namespace Go.Proofs.YtgejdkiehcpinaaDoor
open Go Go.RowKit
attribute [local go_sem] Oper.semAt_some Grows wide_fn eq4

set_option maxRecDepth 100000 in
set_option maxHeartbeats 4000000 in
theorem turns_walk (a b c s p t q u v x y z : Nat → Int)
    (h1 : Ret Tryd.prog 13 #[.agg #[.int .u64 (a 0), .int .u64 (a 1), .int .u64 (a 2), .int .u64 (a 3)], .agg #[.int .u64 (b 0), .int .u64 (b 1), .int .u64 (b 2), .int .u64 (b 3)]] (.agg #[.int .u64 (s 0), .int .u64 (s 1), .int .u64 (s 2), .int .u64 (s 3)]))
    (h2 : Ret Tryd.prog 13 #[.agg #[.int .u64 (b 0), .int .u64 (b 1), .int .u64 (b 2), .int .u64 (b 3)], .agg #[.int .u64 (a 0), .int .u64 (a 1), .int .u64 (a 2), .int .u64 (a 3)]] (.agg #[.int .u64 (s 0), .int .u64 (s 1), .int .u64 (s 2), .int .u64 (s 3)]))
    (h3 : Ret Tryd.prog 17 #[.agg #[.int .u64 (a 0), .int .u64 (a 1), .int .u64 (a 2), .int .u64 (a 3)], .agg #[.int .u64 (b 0), .int .u64 (b 1), .int .u64 (b 2), .int .u64 (b 3)]] (.agg #[.int .u64 (p 0), .int .u64 (p 1), .int .u64 (p 2), .int .u64 (p 3)]))
    (h4 : Ret Tryd.prog 17 #[.agg #[.int .u64 (b 0), .int .u64 (b 1), .int .u64 (b 2), .int .u64 (b 3)], .agg #[.int .u64 (a 0), .int .u64 (a 1), .int .u64 (a 2), .int .u64 (a 3)]] (.agg #[.int .u64 (p 0), .int .u64 (p 1), .int .u64 (p 2), .int .u64 (p 3)]))
    (h5 : Ret Tryd.prog 13 #[.agg #[.int .u64 (s 0), .int .u64 (s 1), .int .u64 (s 2), .int .u64 (s 3)], .agg #[.int .u64 (c 0), .int .u64 (c 1), .int .u64 (c 2), .int .u64 (c 3)]] (.agg #[.int .u64 (t 0), .int .u64 (t 1), .int .u64 (t 2), .int .u64 (t 3)]))
    (h6 : Ret Tryd.prog 13 #[.agg #[.int .u64 (b 0), .int .u64 (b 1), .int .u64 (b 2), .int .u64 (b 3)], .agg #[.int .u64 (c 0), .int .u64 (c 1), .int .u64 (c 2), .int .u64 (c 3)]] (.agg #[.int .u64 (q 0), .int .u64 (q 1), .int .u64 (q 2), .int .u64 (q 3)]))
    (h7 : Ret Tryd.prog 13 #[.agg #[.int .u64 (a 0), .int .u64 (a 1), .int .u64 (a 2), .int .u64 (a 3)], .agg #[.int .u64 (q 0), .int .u64 (q 1), .int .u64 (q 2), .int .u64 (q 3)]] (.agg #[.int .u64 (t 0), .int .u64 (t 1), .int .u64 (t 2), .int .u64 (t 3)]))
    (h8 : Ret Tryd.prog 17 #[.agg #[.int .u64 (p 0), .int .u64 (p 1), .int .u64 (p 2), .int .u64 (p 3)], .agg #[.int .u64 (c 0), .int .u64 (c 1), .int .u64 (c 2), .int .u64 (c 3)]] (.agg #[.int .u64 (u 0), .int .u64 (u 1), .int .u64 (u 2), .int .u64 (u 3)]))
    (h9 : Ret Tryd.prog 17 #[.agg #[.int .u64 (b 0), .int .u64 (b 1), .int .u64 (b 2), .int .u64 (b 3)], .agg #[.int .u64 (c 0), .int .u64 (c 1), .int .u64 (c 2), .int .u64 (c 3)]] (.agg #[.int .u64 (v 0), .int .u64 (v 1), .int .u64 (v 2), .int .u64 (v 3)]))
    (h10 : Ret Tryd.prog 17 #[.agg #[.int .u64 (a 0), .int .u64 (a 1), .int .u64 (a 2), .int .u64 (a 3)], .agg #[.int .u64 (v 0), .int .u64 (v 1), .int .u64 (v 2), .int .u64 (v 3)]] (.agg #[.int .u64 (u 0), .int .u64 (u 1), .int .u64 (u 2), .int .u64 (u 3)]))
    (h11 : Ret Tryd.prog 17 #[.agg #[.int .u64 (s 0), .int .u64 (s 1), .int .u64 (s 2), .int .u64 (s 3)], .agg #[.int .u64 (c 0), .int .u64 (c 1), .int .u64 (c 2), .int .u64 (c 3)]] (.agg #[.int .u64 (x 0), .int .u64 (x 1), .int .u64 (x 2), .int .u64 (x 3)]))
    (h12 : Ret Tryd.prog 17 #[.agg #[.int .u64 (a 0), .int .u64 (a 1), .int .u64 (a 2), .int .u64 (a 3)], .agg #[.int .u64 (c 0), .int .u64 (c 1), .int .u64 (c 2), .int .u64 (c 3)]] (.agg #[.int .u64 (y 0), .int .u64 (y 1), .int .u64 (y 2), .int .u64 (y 3)]))
    (h13 : Ret Tryd.prog 13 #[.agg #[.int .u64 (y 0), .int .u64 (y 1), .int .u64 (y 2), .int .u64 (y 3)], .agg #[.int .u64 (v 0), .int .u64 (v 1), .int .u64 (v 2), .int .u64 (v 3)]] (.agg #[.int .u64 (x 0), .int .u64 (x 1), .int .u64 (x 2), .int .u64 (x 3)]))
    (h14 : Ret Tryd.prog 17 #[.agg #[.int .u64 (a 0), .int .u64 (a 1), .int .u64 (a 2), .int .u64 (a 3)], .agg #[.int .u64 1, .int .u64 0, .int .u64 0, .int .u64 0]] (.agg #[.int .u64 (a 0), .int .u64 (a 1), .int .u64 (a 2), .int .u64 (a 3)])) (h15 : Ret Tryd.prog 13 #[.agg #[.int .u64 (a 0), .int .u64 (a 1), .int .u64 (a 2), .int .u64 (a 3)], .agg #[.int .u64 0, .int .u64 0, .int .u64 0, .int .u64 0]] (.agg #[.int .u64 (a 0), .int .u64 (a 1), .int .u64 (a 2), .int .u64 (a 3)]))
    (h16 : Ret Tryd.prog 17 #[.agg #[.int .u64 (a 0), .int .u64 (a 1), .int .u64 (a 2), .int .u64 (a 3)], .agg #[.int .u64 18446744073709551615, .int .u64 18446744073709551615, .int .u64 18446744073709551615, .int .u64 18446744073709551615]] (.agg #[.int .u64 (z 0), .int .u64 (z 1), .int .u64 (z 2), .int .u64 (z 3)])) (h17 : Ret Tryd.prog 15 #[.agg #[.int .u64 0, .int .u64 0, .int .u64 0, .int .u64 0], .agg #[.int .u64 (a 0), .int .u64 (a 1), .int .u64 (a 2), .int .u64 (a 3)]] (.agg #[.int .u64 (z 0), .int .u64 (z 1), .int .u64 (z 2), .int .u64 (z 3)])) :
    Ret Tryd.prog 5 #[.agg #[.int .u64 (a 0), .int .u64 (a 1), .int .u64 (a 2), .int .u64 (a 3)], .agg #[.int .u64 (b 0), .int .u64 (b 1), .int .u64 (b 2), .int .u64 (b 3)], .agg #[.int .u64 (c 0), .int .u64 (c 1), .int .u64 (c 2), .int .u64 (c 3)]] (.bool true) := by
  intro w
  have k1 := awake_ret
  have d1 := c_1
  have dm := c_m1
  unfold W4 at d1 dm
  have LA := (((Lies.new w (a 0) (a 1) (a 2) (a 3)).alloc (.cells #[.int .u64 (b 0), .int .u64 (b 1), .int .u64 (b 2), .int .u64 (b 3)] 24)).alloc (.cells #[.int .u64 (c 0), .int .u64 (c 1), .int .u64 (c 2), .int .u64 (c 3)] 24))
  have LB := ((Lies.new (w.alloc (.cells #[.int .u64 (a 0), .int .u64 (a 1), .int .u64 (a 2), .int .u64 (a 3)] 24)) (b 0) (b 1) (b 2) (b 3)).alloc (.cells #[.int .u64 (c 0), .int .u64 (c 1), .int .u64 (c 2), .int .u64 (c 3)] 24))
  have LC := Lies.new ((w.alloc (.cells #[.int .u64 (a 0), .int .u64 (a 1), .int .u64 (a 2), .int .u64 (a 3)] 24)).alloc (.cells #[.int .u64 (b 0), .int .u64 (b 1), .int .u64 (b 2), .int .u64 (b 3)] 24)) (c 0) (c 1) (c 2) (c 3)
  have BB := (((Below.refl _ w).alloc (Nat.le_refl _) (.cells #[.int .u64 (a 0), .int .u64 (a 1), .int .u64 (a 2), .int .u64 (a 3)] 24)).alloc (by simp) (.cells #[.int .u64 (b 0), .int .u64 (b 1), .int .u64 (b 2), .int .u64 (b 3)] 24)).alloc (by simp; omega) (.cells #[.int .u64 (c 0), .int .u64 (c 1), .int .u64 (c 2), .int .u64 (c 3)] 24)
  rw [World.size_alloc] at LB
  rw [World.size_alloc, World.size_alloc] at LC
  go_enter Tryd.func5, Tryd.ntmps5
  go_wp2_with fail
  obtain ⟨W0, hW0⟩ : ∃ W0, ((w.alloc (.cells #[.int .u64 (a 0), .int .u64 (a 1), .int .u64 (a 2), .int .u64 (a 3)] 24)).alloc (.cells #[.int .u64 (b 0), .int .u64 (b 1), .int .u64 (b 2), .int .u64 (b 3)] 24)).alloc (.cells #[.int .u64 (c 0), .int .u64 (c 1), .int .u64 (c 2), .int .u64 (c 3)] 24) = W0 := ⟨_, rfl⟩
  rw [hW0] at LA LB LC BB ⊢
  clear hW0
  refine (k1 _).mono ?_
  rintro e w1 ⟨rfl, hb1⟩
  go_wp2_with fail
  refine (d1 _).mono ?_
  rintro e w2 ⟨rfl, hb2⟩
  have LA1 := ((LA.later hb1).later hb2).alloc (.cells #[.int .u64 1, .int .u64 0, .int .u64 0, .int .u64 0] 24)
  have LB1 := ((LB.later hb1).later hb2).alloc (.cells #[.int .u64 1, .int .u64 0, .int .u64 0, .int .u64 0] 24)
  have LC1 := ((LC.later hb1).later hb2).alloc (.cells #[.int .u64 1, .int .u64 0, .int .u64 0, .int .u64 0] 24)
  have LO1 := Lies.new w2 1 0 0 0
  have B0 := BB.trans (hb1.mono BB.size)
  have B1 := (B0.trans (hb2.mono B0.size)).alloc (Nat.le_trans B0.size hb2.size) (.cells #[.int .u64 1, .int .u64 0, .int .u64 0, .int .u64 0] 24)
  obtain ⟨m0, m1, m2, m3⟩ := And.intro LA1.c0 (And.intro LA1.c1 (And.intro LA1.c2 LA1.c3))
  obtain ⟨n0, n1, n2, n3⟩ := And.intro LB1.c0 (And.intro LB1.c1 (And.intro LB1.c2 LB1.c3))
  clear LA LB LC BB hb1 hb2 B0
  go_wp2_with fail
  clear m0 m1 m2 m3 n0 n1 n2 n3
  obtain ⟨W1, hW1⟩ : ∃ W1, w2.alloc (.cells #[.int .u64 1, .int .u64 0, .int .u64 0, .int .u64 0] 24) = W1 := ⟨_, rfl⟩
  rw [hW1] at LA1 LB1 LC1 LO1 B1 ⊢
  clear hW1
  generalize w2.heap.size = bO at *
  refine (h1 _).mono ?_
  rintro e w3 ⟨rfl, hb3⟩
  go_wp2_with fail
  have LA := (LA1.later hb3).alloc (.cells #[.int .u64 (s 0), .int .u64 (s 1), .int .u64 (s 2), .int .u64 (s 3)] 24)
  have LB := (LB1.later hb3).alloc (.cells #[.int .u64 (s 0), .int .u64 (s 1), .int .u64 (s 2), .int .u64 (s 3)] 24)
  have LC := (LC1.later hb3).alloc (.cells #[.int .u64 (s 0), .int .u64 (s 1), .int .u64 (s 2), .int .u64 (s 3)] 24)
  have LO := (LO1.later hb3).alloc (.cells #[.int .u64 (s 0), .int .u64 (s 1), .int .u64 (s 2), .int .u64 (s 3)] 24)
  have LS := Lies.new w3 (s 0) (s 1) (s 2) (s 3)
  have B2 := Lib.hid ((B1.trans (hb3.mono B1.size)).alloc (Nat.le_trans B1.size hb3.size) (.cells #[.int .u64 (s 0), .int .u64 (s 1), .int .u64 (s 2), .int .u64 (s 3)] 24))
  obtain ⟨W2, hW2⟩ : ∃ W2, w3.alloc (.cells #[.int .u64 (s 0), .int .u64 (s 1), .int .u64 (s 2), .int .u64 (s 3)] 24) = W2 := ⟨_, rfl⟩
  rw [hW2] at LA LB LC LO LS B2 ⊢
  clear hW2 hb3 LA1 LB1 LC1 LO1 B1
  generalize w3.heap.size = bS at *
  have fA0 : ∀ x : Ext W2, x.w.cell? ⟨w.heap.size, 0, none⟩ = some (.int .u64 (a 0)) := fun x => (LA.later x.below).c0
  have fA1 : ∀ x : Ext W2, x.w.cell? ⟨w.heap.size, 1, none⟩ = some (.int .u64 (a 1)) := fun x => (LA.later x.below).c1
  have fA2 : ∀ x : Ext W2, x.w.cell? ⟨w.heap.size, 2, none⟩ = some (.int .u64 (a 2)) := fun x => (LA.later x.below).c2
  have fA3 : ∀ x : Ext W2, x.w.cell? ⟨w.heap.size, 3, none⟩ = some (.int .u64 (a 3)) := fun x => (LA.later x.below).c3
  have fB0 : ∀ x : Ext W2, x.w.cell? ⟨w.heap.size + 1, 0, none⟩ = some (.int .u64 (b 0)) := fun x => (LB.later x.below).c0
  have fB1 : ∀ x : Ext W2, x.w.cell? ⟨w.heap.size + 1, 1, none⟩ = some (.int .u64 (b 1)) := fun x => (LB.later x.below).c1
  have fB2 : ∀ x : Ext W2, x.w.cell? ⟨w.heap.size + 1, 2, none⟩ = some (.int .u64 (b 2)) := fun x => (LB.later x.below).c2
  have fB3 : ∀ x : Ext W2, x.w.cell? ⟨w.heap.size + 1, 3, none⟩ = some (.int .u64 (b 3)) := fun x => (LB.later x.below).c3
  have fC0 : ∀ x : Ext W2, x.w.cell? ⟨w.heap.size + 1 + 1, 0, none⟩ = some (.int .u64 (c 0)) := fun x => (LC.later x.below).c0
  have fC1 : ∀ x : Ext W2, x.w.cell? ⟨w.heap.size + 1 + 1, 1, none⟩ = some (.int .u64 (c 1)) := fun x => (LC.later x.below).c1
  have fC2 : ∀ x : Ext W2, x.w.cell? ⟨w.heap.size + 1 + 1, 2, none⟩ = some (.int .u64 (c 2)) := fun x => (LC.later x.below).c2
  have fC3 : ∀ x : Ext W2, x.w.cell? ⟨w.heap.size + 1 + 1, 3, none⟩ = some (.int .u64 (c 3)) := fun x => (LC.later x.below).c3
  have fO0 : ∀ x : Ext W2, x.w.cell? ⟨bO, 0, none⟩ = some (.int .u64 (1)) := fun x => (LO.later x.below).c0
  have fO1 : ∀ x : Ext W2, x.w.cell? ⟨bO, 1, none⟩ = some (.int .u64 (0)) := fun x => (LO.later x.below).c1
  have fO2 : ∀ x : Ext W2, x.w.cell? ⟨bO, 2, none⟩ = some (.int .u64 (0)) := fun x => (LO.later x.below).c2
  have fO3 : ∀ x : Ext W2, x.w.cell? ⟨bO, 3, none⟩ = some (.int .u64 (0)) := fun x => (LO.later x.below).c3
  have fS0 : ∀ x : Ext W2, x.w.cell? ⟨bS, 0, none⟩ = some (.int .u64 (s 0)) := fun x => (LS.later x.below).c0
  have fS1 : ∀ x : Ext W2, x.w.cell? ⟨bS, 1, none⟩ = some (.int .u64 (s 1)) := fun x => (LS.later x.below).c1
  have fS2 : ∀ x : Ext W2, x.w.cell? ⟨bS, 2, none⟩ = some (.int .u64 (s 2)) := fun x => (LS.later x.below).c2
  have fS3 : ∀ x : Ext W2, x.w.cell? ⟨bS, 3, none⟩ = some (.int .u64 (s 3)) := fun x => (LS.later x.below).c3
  clear LA LB LC LO LS
  simp only [List.append]
  refine wp_region_quietL (C := Grows W2) (by kernel_rfl) (by kernel_rfl) (grows_refl W2) ?_
  repeat (go_big_quiet_step (first | (with_reducible exact Ret.at d1 _) | (with_reducible exact Ret.at dm _) | (with_reducible exact Ret.at h1 _) | (with_reducible exact Ret.at h2 _) | (with_reducible exact Ret.at h3 _) | (with_reducible exact Ret.at h4 _) | (with_reducible exact Ret.at h5 _) | (with_reducible exact Ret.at h6 _) | (with_reducible exact Ret.at h7 _) | (with_reducible exact Ret.at h8 _) | (with_reducible exact Ret.at h9 _) | (with_reducible exact Ret.at h10 _) | (with_reducible exact Ret.at h11 _) | (with_reducible exact Ret.at h12 _) | (with_reducible exact Ret.at h13 _) | (with_reducible exact Ret.at h14 _) | (with_reducible exact Ret.at h15 _) | (with_reducible exact Ret.at h16 _) | (with_reducible exact Ret.at h17 _)))
  refine wpQuiet_nil ?_
  rintro _ ⟨x, rfl⟩
  go_wp2
  go_ret
  exact ⟨rfl, B2.out.trans (x.below.mono B2.out.size)⟩
end Go.Proofs.YtgejdkiehcpinaaDoor
