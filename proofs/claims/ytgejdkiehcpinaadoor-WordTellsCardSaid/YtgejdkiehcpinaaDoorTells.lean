/- Words, their sums and products, bytes and texts are as the document says: the law's walk over what the calls answer. -/
import Derived.Test.YtgejdkiehcpinaaDoorAwake
import Derived.Test.YtgejdkiehcpinaaDoorRefG
namespace Go.Proofs.YtgejdkiehcpinaaDoor
open Go Go.RowKit
attribute [local go_sem] Oper.semAt_some Grows wide_fn eq4

set_option maxRecDepth 100000 in
set_option maxHeartbeats 8000000 in
theorem tells_walk (X P Q : Nat → Nat → Int) (zS zD zP : Nat → Int) (n at_ : Int) (p c d E : Nat → Int) (q : Nat → Bool) (B T Y : Nat → ByteArray) (s more t : ByteArray) (K M : Nat)
    (ht : t = T 0) (hts : t.size ≤ 66) (hK : K ≤ t.size) (hM : M = min (K + more.size) t.size) (hmore : more.size ≤ 140737488355328)
    (y0 : Y 0 = s) (y1 : Y 1 = t) (y2 : Y 2 = (t.extract 0 K ++ more) ++ t.extract K t.size) (y3 : Y 3 = (t.extract 0 K ++ more) ++ t.extract M t.size)
    (h1 : Ret Tryd.prog 11 #[.int .i64 n] (.agg #[.int .u64 (X 2 0), .int .u64 (X 2 1), .int .u64 (X 2 2), .int .u64 (X 2 3)]))
    (g1 : Ret Tryd.prog 12 #[.int .i64 n] (.agg #[.int .u64 (X 2 0), .int .u64 (X 2 1), .int .u64 (X 2 2), .int .u64 (X 2 3)]))
    (h2 : Ret Tryd.prog 13 #[.agg #[.int .u64 (X 0 0), .int .u64 (X 0 1), .int .u64 (X 0 2), .int .u64 (X 0 3)], .agg #[.int .u64 (X 1 0), .int .u64 (X 1 1), .int .u64 (X 1 2), .int .u64 (X 1 3)]] (.agg #[.int .u64 (zS 0), .int .u64 (zS 1), .int .u64 (zS 2), .int .u64 (zS 3)]))
    (g2 : Ret Tryd.prog 14 #[.agg #[.int .u64 (X 0 0), .int .u64 (X 0 1), .int .u64 (X 0 2), .int .u64 (X 0 3)], .agg #[.int .u64 (X 1 0), .int .u64 (X 1 1), .int .u64 (X 1 2), .int .u64 (X 1 3)]] (.agg #[.int .u64 (zS 0), .int .u64 (zS 1), .int .u64 (zS 2), .int .u64 (zS 3)]))
    (h3 : Ret Tryd.prog 15 #[.agg #[.int .u64 (X 0 0), .int .u64 (X 0 1), .int .u64 (X 0 2), .int .u64 (X 0 3)], .agg #[.int .u64 (X 1 0), .int .u64 (X 1 1), .int .u64 (X 1 2), .int .u64 (X 1 3)]] (.agg #[.int .u64 (zD 0), .int .u64 (zD 1), .int .u64 (zD 2), .int .u64 (zD 3)]))
    (g3 : Ret Tryd.prog 16 #[.agg #[.int .u64 (X 0 0), .int .u64 (X 0 1), .int .u64 (X 0 2), .int .u64 (X 0 3)], .agg #[.int .u64 (X 1 0), .int .u64 (X 1 1), .int .u64 (X 1 2), .int .u64 (X 1 3)]] (.agg #[.int .u64 (zD 0), .int .u64 (zD 1), .int .u64 (zD 2), .int .u64 (zD 3)]))
    (h4 : Ret Tryd.prog 17 #[.agg #[.int .u64 (X 0 0), .int .u64 (X 0 1), .int .u64 (X 0 2), .int .u64 (X 0 3)], .agg #[.int .u64 (X 1 0), .int .u64 (X 1 1), .int .u64 (X 1 2), .int .u64 (X 1 3)]] (.agg #[.int .u64 (zP 0), .int .u64 (zP 1), .int .u64 (zP 2), .int .u64 (zP 3)]))
    (g4 : Ret Tryd.prog 18 #[.agg #[.int .u64 (X 0 0), .int .u64 (X 0 1), .int .u64 (X 0 2), .int .u64 (X 0 3)], .agg #[.int .u64 (X 1 0), .int .u64 (X 1 1), .int .u64 (X 1 2), .int .u64 (X 1 3)]] (.agg #[.int .u64 (zP 0), .int .u64 (zP 1), .int .u64 (zP 2), .int .u64 (zP 3)]))
    (i1 : ∀ j, j < 3 → Ret Tryd.prog 19 #[.agg #[.int .u64 (X j 0), .int .u64 (X j 1), .int .u64 (X j 2), .int .u64 (X j 3)]] (.tuple #[.int .i64 (p j), .bool (q j)]))
    (k1 : ∀ j, j < 3 → Ret Tryd.prog 20 #[.agg #[.int .u64 (X j 0), .int .u64 (X j 1), .int .u64 (X j 2), .int .u64 (X j 3)]] (.tuple #[.int .i64 (p j), .bool (q j)]))
    (i2 : ∀ j, j < 3 → Ret Tryd.prog 21 #[.agg #[.int .u64 (X j 0), .int .u64 (X j 1), .int .u64 (X j 2), .int .u64 (X j 3)]] (.string (B j)))
    (k2 : ∀ j, j < 3 → Ret Tryd.prog 22 #[.agg #[.int .u64 (X j 0), .int .u64 (X j 1), .int .u64 (X j 2), .int .u64 (X j 3)]] (.string (B j)))
    (i3 : ∀ j, j < 3 → Ret Tryd.prog 23 #[.agg #[.int .u64 (X j 0), .int .u64 (X j 1), .int .u64 (X j 2), .int .u64 (X j 3)]] (.string (T j)))
    (k3 : ∀ j, j < 3 → Ret Tryd.prog 24 #[.agg #[.int .u64 (X j 0), .int .u64 (X j 1), .int .u64 (X j 2), .int .u64 (X j 3)]] (.string (T j)))
    (i4 : ∀ j, j < 3 → Ret Tryd.prog 25 #[.agg #[.int .u64 (X j 0), .int .u64 (X j 1), .int .u64 (X j 2), .int .u64 (X j 3)], .agg #[.int .u64 (X 1 0), .int .u64 (X 1 1), .int .u64 (X 1 2), .int .u64 (X 1 3)]] (.int .i64 (c j)))
    (k4 : ∀ j, j < 3 → Ret Tryd.prog 26 #[.agg #[.int .u64 (X j 0), .int .u64 (X j 1), .int .u64 (X j 2), .int .u64 (X j 3)], .agg #[.int .u64 (X 1 0), .int .u64 (X 1 1), .int .u64 (X 1 2), .int .u64 (X 1 3)]] (.int .i64 (c j)))
    (i5 : ∀ j, j < 3 → Ret Tryd.prog 25 #[.agg #[.int .u64 (X 0 0), .int .u64 (X 0 1), .int .u64 (X 0 2), .int .u64 (X 0 3)], .agg #[.int .u64 (X j 0), .int .u64 (X j 1), .int .u64 (X j 2), .int .u64 (X j 3)]] (.int .i64 (d j)))
    (k5 : ∀ j, j < 3 → Ret Tryd.prog 26 #[.agg #[.int .u64 (X 0 0), .int .u64 (X 0 1), .int .u64 (X 0 2), .int .u64 (X 0 3)], .agg #[.int .u64 (X j 0), .int .u64 (X j 1), .int .u64 (X j 2), .int .u64 (X j 3)]] (.int .i64 (d j)))
    (m1 : Ret Tryd.prog 27 #[.int .i64 at_, .int .i64 ((t.size : Int) + 1)] (.int .i64 (K : Int)))
    (m2 : ∀ j, j < 4 → Ret Tryd.prog 28 #[.string (Y j)] (.tuple #[.agg #[.int .u64 ((P j) 0), .int .u64 ((P j) 1), .int .u64 ((P j) 2), .int .u64 ((P j) 3)], .int .i64 (E j)]))
    (o2 : ∀ j, j < 4 → Ret Tryd.prog 29 #[.string (Y j)] (.tuple #[.agg #[.int .u64 ((P j) 0), .int .u64 ((P j) 1), .int .u64 ((P j) 2), .int .u64 ((P j) 3)], .int .i64 (E j)]))
    (m3 : ∀ j, j < 4 → Ret Tryd.prog 30 #[.string (Y j)] (.agg #[.int .u64 ((Q j) 0), .int .u64 ((Q j) 1), .int .u64 ((Q j) 2), .int .u64 ((Q j) 3)]))
    (o3 : ∀ j, j < 4 → Ret Tryd.prog 31 #[.string (Y j)] (.agg #[.int .u64 ((Q j) 0), .int .u64 ((Q j) 1), .int .u64 ((Q j) 2), .int .u64 ((Q j) 3)])) :
    Ret Tryd.prog 3 #[.agg #[.int .u64 (X 0 0), .int .u64 (X 0 1), .int .u64 (X 0 2), .int .u64 (X 0 3)], .agg #[.int .u64 (X 1 0), .int .u64 (X 1 1), .int .u64 (X 1 2), .int .u64 (X 1 3)], .int .i64 n, .string s, .int .i64 at_, .string more] (.bool true) := by
  intro w
  have k0 := awake_ret
  have I1 := Lib.hid i1
  have K1 := Lib.hid k1
  have I2 := Lib.hid i2
  have K2 := Lib.hid k2
  have I3 := Lib.hid i3
  have K3 := Lib.hid k3
  have I4 := Lib.hid i4
  have K4 := Lib.hid k4
  have I5 := Lib.hid i5
  have K5 := Lib.hid k5
  have M1 := Lib.hid m1
  have M2 := Lib.hid m2
  have M3 := Lib.hid m3
  have O2 := Lib.hid o2
  have O3 := Lib.hid o3
  have HT := Lib.hid (k3 0 (by omega))
  rw [← ht] at HT
  have HY : Hid (Y 0 = s ∧ Y 1 = t ∧ Y 2 = (t.extract 0 K ++ more) ++ t.extract K t.size ∧ Y 3 = (t.extract 0 K ++ more) ++ t.extract M t.size) := ⟨y0, y1, y2, y3⟩
  have HM : Hid (M = min (K + more.size) t.size ∧ t.size ≤ 66 ∧ K ≤ t.size ∧ more.size ≤ 140737488355328) := ⟨hM, hts, hK, hmore⟩
  clear i1 k1 i2 k2 i3 k3 i4 k4 i5 k5 m1 m2 m3 o2 o3 y0 y1 y2 y3 hM hts hK hmore ht
  have LA := ((Lies.new w (X 0 0) (X 0 1) (X 0 2) (X 0 3)).alloc (.cells #[.int .u64 (X 1 0), .int .u64 (X 1 1), .int .u64 (X 1 2), .int .u64 (X 1 3)] 24))
  have LB := Lies.new (w.alloc (.cells #[.int .u64 (X 0 0), .int .u64 (X 0 1), .int .u64 (X 0 2), .int .u64 (X 0 3)] 24)) (X 1 0) (X 1 1) (X 1 2) (X 1 3)
  have BB := ((Below.refl _ w).alloc (Nat.le_refl _) (.cells #[.int .u64 (X 0 0), .int .u64 (X 0 1), .int .u64 (X 0 2), .int .u64 (X 0 3)] 24)).alloc (by simp) (.cells #[.int .u64 (X 1 0), .int .u64 (X 1 1), .int .u64 (X 1 2), .int .u64 (X 1 3)] 24)
  rw [World.size_alloc] at LB
  go_enter Tryd.func3, Tryd.ntmps3
  go_wp2_with fail
  obtain ⟨W0, hW0⟩ : ∃ W0, (w.alloc (.cells #[.int .u64 (X 0 0), .int .u64 (X 0 1), .int .u64 (X 0 2), .int .u64 (X 0 3)] 24)).alloc (.cells #[.int .u64 (X 1 0), .int .u64 (X 1 1), .int .u64 (X 1 2), .int .u64 (X 1 3)] 24) = W0 := ⟨_, rfl⟩
  rw [hW0] at LA LB BB ⊢
  clear hW0
  refine (k0 _).mono ?_
  rintro e W1 ⟨rfl, q1⟩
  have LA := LA.later q1
  have LB := LB.later q1
  have BB := BB.trans (q1.mono BB.size)
  clear q1 k0
  go_wp2_with fail
  have fA0 : ∀ x : Ext W1, x.w.cell? ⟨w.heap.size, 0, none⟩ = some (.int .u64 (X 0 0)) := fun x => (LA.later x.below).c0
  have fA1 : ∀ x : Ext W1, x.w.cell? ⟨w.heap.size, 1, none⟩ = some (.int .u64 (X 0 1)) := fun x => (LA.later x.below).c1
  have fA2 : ∀ x : Ext W1, x.w.cell? ⟨w.heap.size, 2, none⟩ = some (.int .u64 (X 0 2)) := fun x => (LA.later x.below).c2
  have fA3 : ∀ x : Ext W1, x.w.cell? ⟨w.heap.size, 3, none⟩ = some (.int .u64 (X 0 3)) := fun x => (LA.later x.below).c3
  have fB0 : ∀ x : Ext W1, x.w.cell? ⟨w.heap.size + 1, 0, none⟩ = some (.int .u64 (X 1 0)) := fun x => (LB.later x.below).c0
  have fB1 : ∀ x : Ext W1, x.w.cell? ⟨w.heap.size + 1, 1, none⟩ = some (.int .u64 (X 1 1)) := fun x => (LB.later x.below).c1
  have fB2 : ∀ x : Ext W1, x.w.cell? ⟨w.heap.size + 1, 2, none⟩ = some (.int .u64 (X 1 2)) := fun x => (LB.later x.below).c2
  have fB3 : ∀ x : Ext W1, x.w.cell? ⟨w.heap.size + 1, 3, none⟩ = some (.int .u64 (X 1 3)) := fun x => (LB.later x.below).c3
  refine wp_region_quietL (C := Grows W1) (by kernel_rfl) (by kernel_rfl) (grows_refl W1) ?_
  repeat (go_big_quiet_step (first | (with_reducible exact Ret.at h1 _) | (with_reducible exact Ret.at g1 _) | (with_reducible exact Ret.at h2 _) | (with_reducible exact Ret.at g2 _) | (with_reducible exact Ret.at h3 _) | (with_reducible exact Ret.at g3 _) | (with_reducible exact Ret.at h4 _) | (with_reducible exact Ret.at g4 _)))
  refine wpQuiet_nil ?_
  rintro _ ⟨x, rfl⟩
  have LA := LA.later x.below
  have LB := LB.later x.below
  have BB := BB.trans (x.below.mono BB.size)
  clear fA0 fA1 fA2 fA3 fB0 fB1 fB2 fB3 h1 h2 h3 h4 g2 g3 g4
  generalize x.w = W2 at *
  have fA0 : ∀ x : Ext W2, x.w.cell? ⟨w.heap.size, 0, none⟩ = some (.int .u64 (X 0 0)) := fun x => (LA.later x.below).c0
  have fA1 : ∀ x : Ext W2, x.w.cell? ⟨w.heap.size, 1, none⟩ = some (.int .u64 (X 0 1)) := fun x => (LA.later x.below).c1
  have fA2 : ∀ x : Ext W2, x.w.cell? ⟨w.heap.size, 2, none⟩ = some (.int .u64 (X 0 2)) := fun x => (LA.later x.below).c2
  have fA3 : ∀ x : Ext W2, x.w.cell? ⟨w.heap.size, 3, none⟩ = some (.int .u64 (X 0 3)) := fun x => (LA.later x.below).c3
  have fB0 : ∀ x : Ext W2, x.w.cell? ⟨w.heap.size + 1, 0, none⟩ = some (.int .u64 (X 1 0)) := fun x => (LB.later x.below).c0
  have fB1 : ∀ x : Ext W2, x.w.cell? ⟨w.heap.size + 1, 1, none⟩ = some (.int .u64 (X 1 1)) := fun x => (LB.later x.below).c1
  have fB2 : ∀ x : Ext W2, x.w.cell? ⟨w.heap.size + 1, 2, none⟩ = some (.int .u64 (X 1 2)) := fun x => (LB.later x.below).c2
  have fB3 : ∀ x : Ext W2, x.w.cell? ⟨w.heap.size + 1, 3, none⟩ = some (.int .u64 (X 1 3)) := fun x => (LB.later x.below).c3
  go_wp2_with fail
  refine wp_region_mix (C := Grows W2) [some true, some true, some true, some true, none, none, some false] (by kernel_rfl) (by kernel_rfl) (by kernel_rfl) (grows_refl W2) ?_
  simp only [headOf, tailOf]
  repeat (go_big_quiet_step (with_reducible exact Ret.at g1 _))
  refine wpQuiet_nil ?_
  rintro _ ⟨x, rfl⟩
  have LA := (LA.later x.below).alloc (.cells #[.int .u64 (X 0 0), .int .u64 (X 0 1), .int .u64 (X 0 2), .int .u64 (X 0 3), .int .u64 (X 1 0), .int .u64 (X 1 1), .int .u64 (X 1 2), .int .u64 (X 1 3), .int .u64 (X 2 0), .int .u64 (X 2 1), .int .u64 (X 2 2), .int .u64 (X 2 3)] 24)
  have LB := (LB.later x.below).alloc (.cells #[.int .u64 (X 0 0), .int .u64 (X 0 1), .int .u64 (X 0 2), .int .u64 (X 0 3), .int .u64 (X 1 0), .int .u64 (X 1 1), .int .u64 (X 1 2), .int .u64 (X 1 3), .int .u64 (X 2 0), .int .u64 (X 2 1), .int .u64 (X 2 2), .int .u64 (X 2 3)] 24)
  have BB' := BB.trans (x.below.mono BB.size)
  have hG : ∀ j k, j < 3 → k < 4 → (x.w.alloc (.cells #[.int .u64 (X 0 0), .int .u64 (X 0 1), .int .u64 (X 0 2), .int .u64 (X 0 3), .int .u64 (X 1 0), .int .u64 (X 1 1), .int .u64 (X 1 2), .int .u64 (X 1 3), .int .u64 (X 2 0), .int .u64 (X 2 1), .int .u64 (X 2 2), .int .u64 (X 2 3)] 24)).cell? ⟨x.w.heap.size, 4 * j + k, none⟩ = some (.int .u64 (X j k)) := by
    intro j k hj hk
    simp only [World.cell?, show (x.w.alloc (.cells #[.int .u64 (X 0 0), .int .u64 (X 0 1), .int .u64 (X 0 2), .int .u64 (X 0 3), .int .u64 (X 1 0), .int .u64 (X 1 1), .int .u64 (X 1 2), .int .u64 (X 1 3), .int .u64 (X 2 0), .int .u64 (X 2 1), .int .u64 (X 2 2), .int .u64 (X 2 3)] 24)).heap[x.w.heap.size]? = _ from World.alloc_heap_new x.w _]
    rcases (show j = 0 ∨ j = 1 ∨ j = 2 by omega) with rfl | rfl | rfl <;> rcases (show k = 0 ∨ k = 1 ∨ k = 2 ∨ k = 3 by omega) with rfl | rfl | rfl | rfl <;> rfl
  have hgl : x.w.heap.size < (x.w.alloc (.cells #[.int .u64 (X 0 0), .int .u64 (X 0 1), .int .u64 (X 0 2), .int .u64 (X 0 3), .int .u64 (X 1 0), .int .u64 (X 1 1), .int .u64 (X 1 2), .int .u64 (X 1 3), .int .u64 (X 2 0), .int .u64 (X 2 1), .int .u64 (X 2 2), .int .u64 (X 2 3)] 24)).heap.size := by simp
  have BB := BB'.alloc BB'.size (.cells #[.int .u64 (X 0 0), .int .u64 (X 0 1), .int .u64 (X 0 2), .int .u64 (X 0 3), .int .u64 (X 1 0), .int .u64 (X 1 1), .int .u64 (X 1 2), .int .u64 (X 1 3), .int .u64 (X 2 0), .int .u64 (X 2 1), .int .u64 (X 2 2), .int .u64 (X 2 3)] 24)
  clear fA0 fA1 fA2 fA3 fB0 fB1 fB2 fB3 g1 BB'
  generalize x.w = W3 at *
  go_wp2
  rw [calmPost_normal]
  obtain ⟨W4, hW4⟩ : ∃ W4, W3.alloc (.cells #[.int .u64 (X 0 0), .int .u64 (X 0 1), .int .u64 (X 0 2), .int .u64 (X 0 3), .int .u64 (X 1 0), .int .u64 (X 1 1), .int .u64 (X 1 2), .int .u64 (X 1 3), .int .u64 (X 2 0), .int .u64 (X 2 1), .int .u64 (X 2 2), .int .u64 (X 2 3)] 24) = W4 := ⟨_, rfl⟩
  rw [hW4] at LA LB hG hgl BB ⊢
  clear hW4
  generalize W3.heap.size = gb at *
  go_wp2
  go_loopw [67] (fun i wr => ∃ j : Nat, j ≤ 3 ∧ i = .int .i64 (j : Int) ∧ Lies wr w.heap.size (X 0 0) (X 0 1) (X 0 2) (X 0 3) ∧ Lies wr (w.heap.size + 1) (X 1 0) (X 1 1) (X 1 2) (X 1 3) ∧ (∀ j k, j < 3 → k < 4 → wr.cell? ⟨gb, 4 * j + k, none⟩ = some (.int .u64 (X j k))) ∧ gb < wr.heap.size ∧ Below w.heap.size w wr) (fun i _ => 3 - (intOf i).toNat)
  case atStart => exact ⟨0, by omega, rfl, LA, LB, hG, hgl, BB⟩
  case round =>
    clear LA LB hG hgl BB
    obtain ⟨j, hj, rfl, LA, LB, hG, hgl, BB⟩ := hrel
    by_cases hlt : j < 3
    · rcases (show j = 0 ∨ j = 1 ∨ j = 2 by omega) with rfl | rfl | rfl
      all_goals clear hj hlt
      · skip
        obtain ⟨u0, u1, u2, u3⟩ := And.intro (hG 0 0 (by omega) (by omega)) (And.intro (hG 0 1 (by omega) (by omega)) (And.intro (hG 0 2 (by omega) (by omega)) (hG 0 3 (by omega) (by omega))))
        simp only [Nat.reduceMul, Nat.reduceAdd] at u0 u1 u2 u3
        have a1 := I1.out 0 (by omega)
        have b1 := K1.out 0 (by omega)
        have a2 := I2.out 0 (by omega)
        have b2 := K2.out 0 (by omega)
        have a3 := I3.out 0 (by omega)
        have b3 := K3.out 0 (by omega)
        have a4 := I4.out 0 (by omega)
        have b4 := K4.out 0 (by omega)
        have a5 := I5.out 0 (by omega)
        have b5 := K5.out 0 (by omega)
        have HG := Lib.hid hG
        clear hG
        go_wp2_with fail
        have LX := Lies.new wr (X 0 0) (X 0 1) (X 0 2) (X 0 3)
        have LA := LA.alloc (.cells #[.int .u64 (X 0 0), .int .u64 (X 0 1), .int .u64 (X 0 2), .int .u64 (X 0 3)] 24)
        have LB := LB.alloc (.cells #[.int .u64 (X 0 0), .int .u64 (X 0 1), .int .u64 (X 0 2), .int .u64 (X 0 3)] 24)
        have hG1 : ∀ j k, j < 3 → k < 4 → (wr.alloc (.cells #[.int .u64 (X 0 0), .int .u64 (X 0 1), .int .u64 (X 0 2), .int .u64 (X 0 3)] 24)).cell? ⟨gb, 4 * j + k, none⟩ = some (.int .u64 (X j k)) := fun j k hj hk => (Below.cell ((Below.refl wr.heap.size wr).alloc (Nat.le_refl _) _) (p := ⟨gb, 4 * j + k, none⟩) hgl).trans (HG.out j k hj hk)
        have hgl1 := Nat.lt_of_lt_of_le hgl (show wr.heap.size ≤ (wr.alloc (.cells #[.int .u64 (X 0 0), .int .u64 (X 0 1), .int .u64 (X 0 2), .int .u64 (X 0 3)] 24)).heap.size by simp)
        have BB := BB.alloc BB.size (.cells #[.int .u64 (X 0 0), .int .u64 (X 0 1), .int .u64 (X 0 2), .int .u64 (X 0 3)] 24)
        clear u0 u1 u2 u3 HG hgl
        obtain ⟨W3, hW3⟩ : ∃ W3, wr.alloc (.cells #[.int .u64 (X 0 0), .int .u64 (X 0 1), .int .u64 (X 0 2), .int .u64 (X 0 3)] 24) = W3 := ⟨_, rfl⟩
        rw [hW3] at LX LA LB hG1 hgl1 BB ⊢
        clear hW3
        generalize wr.heap.size = bX at *
        refine (a1 _).mono ?_
        rintro e W4 ⟨rfl, q1⟩
        have LX := LX.later q1
        have LA := LA.later q1
        have LB := LB.later q1
        have hG2 : ∀ j k, j < 3 → k < 4 → W4.cell? ⟨gb, 4 * j + k, none⟩ = some (.int .u64 (X j k)) := fun j k hj hk => (q1.cell (p := ⟨gb, 4 * j + k, none⟩) hgl1).trans (hG1 j k hj hk)
        have hgl2 := Nat.lt_of_lt_of_le hgl1 q1.size
        have BB := BB.trans (q1.mono BB.size)
        have HG2 := Lib.hid hG2
        clear q1 hG1 hG2 hgl1
        obtain ⟨mx0, mx1, mx2, mx3⟩ := And.intro LX.c0 (And.intro LX.c1 (And.intro LX.c2 LX.c3))
        go_wp2_with fail
        clear mx0 mx1 mx2 mx3
        refine (b1 _).mono ?_
        rintro e W5 ⟨rfl, q1⟩
        have LX := LX.later q1
        have LA := LA.later q1
        have LB := LB.later q1
        have HG3 : Hid (∀ j k, j < 3 → k < 4 → W5.cell? ⟨gb, 4 * j + k, none⟩ = some (.int .u64 (X j k))) := fun j k hj hk => (q1.cell (p := ⟨gb, 4 * j + k, none⟩) hgl2).trans (HG2.out j k hj hk)
        have hgl3 := Nat.lt_of_lt_of_le hgl2 q1.size
        have BB := BB.trans (q1.mono BB.size)
        clear q1 HG2 hgl2
        go_wp2_with fail
        have fX0 : ∀ x : Ext W5, x.w.cell? ⟨bX, 0, none⟩ = some (.int .u64 (X 0 0)) := fun x => (LX.later x.below).c0
        have fX1 : ∀ x : Ext W5, x.w.cell? ⟨bX, 1, none⟩ = some (.int .u64 (X 0 1)) := fun x => (LX.later x.below).c1
        have fX2 : ∀ x : Ext W5, x.w.cell? ⟨bX, 2, none⟩ = some (.int .u64 (X 0 2)) := fun x => (LX.later x.below).c2
        have fX3 : ∀ x : Ext W5, x.w.cell? ⟨bX, 3, none⟩ = some (.int .u64 (X 0 3)) := fun x => (LX.later x.below).c3
        have fA0 : ∀ x : Ext W5, x.w.cell? ⟨w.heap.size, 0, none⟩ = some (.int .u64 (X 0 0)) := fun x => (LA.later x.below).c0
        have fA1 : ∀ x : Ext W5, x.w.cell? ⟨w.heap.size, 1, none⟩ = some (.int .u64 (X 0 1)) := fun x => (LA.later x.below).c1
        have fA2 : ∀ x : Ext W5, x.w.cell? ⟨w.heap.size, 2, none⟩ = some (.int .u64 (X 0 2)) := fun x => (LA.later x.below).c2
        have fA3 : ∀ x : Ext W5, x.w.cell? ⟨w.heap.size, 3, none⟩ = some (.int .u64 (X 0 3)) := fun x => (LA.later x.below).c3
        have fB0 : ∀ x : Ext W5, x.w.cell? ⟨w.heap.size + 1, 0, none⟩ = some (.int .u64 (X 1 0)) := fun x => (LB.later x.below).c0
        have fB1 : ∀ x : Ext W5, x.w.cell? ⟨w.heap.size + 1, 1, none⟩ = some (.int .u64 (X 1 1)) := fun x => (LB.later x.below).c1
        have fB2 : ∀ x : Ext W5, x.w.cell? ⟨w.heap.size + 1, 2, none⟩ = some (.int .u64 (X 1 2)) := fun x => (LB.later x.below).c2
        have fB3 : ∀ x : Ext W5, x.w.cell? ⟨w.heap.size + 1, 3, none⟩ = some (.int .u64 (X 1 3)) := fun x => (LB.later x.below).c3
        refine wp_region_quietL (C := Grows W5) (by kernel_rfl) (by kernel_rfl) (grows_refl W5) ?_
        repeat (go_big_quiet_step (first | (with_reducible exact Ret.at a2 _) | (with_reducible exact Ret.at b2 _) | (with_reducible exact Ret.at a3 _) | (with_reducible exact Ret.at b3 _) | (with_reducible exact Ret.at a4 _) | (with_reducible exact Ret.at b4 _) | (with_reducible exact Ret.at a5 _) | (with_reducible exact Ret.at b5 _)))
        refine wpQuiet_nil ?_
        rintro _ ⟨x, rfl⟩
        have N1 := Lib.hid (LA.later x.below)
        have N2 := Lib.hid (LB.later x.below)
        have N3 : Hid (∀ j k, j < 3 → k < 4 → x.w.cell? ⟨gb, 4 * j + k, none⟩ = some (.int .u64 (X j k))) := fun j k hj hk => (x.below.cell (p := ⟨gb, 4 * j + k, none⟩) hgl3).trans (HG3.out j k hj hk)
        have N4 := Nat.lt_of_lt_of_le hgl3 x.below.size
        have N5 := Lib.hid (BB.trans (x.below.mono BB.size))
        clear LA LB LX BB HG3 hgl3 a1 b1 a2 b2 a3 b3 a4 b4 a5 b5
        generalize x.w = W6 at *
        go_wp2
        go_roundw
        case rel => exact ⟨1, by omega, rfl, N1.out, N2.out, N3.out, N4, N5.out⟩
        case measure => simp [intOf]
      · skip
        obtain ⟨u0, u1, u2, u3⟩ := And.intro (hG 1 0 (by omega) (by omega)) (And.intro (hG 1 1 (by omega) (by omega)) (And.intro (hG 1 2 (by omega) (by omega)) (hG 1 3 (by omega) (by omega))))
        simp only [Nat.reduceMul, Nat.reduceAdd] at u0 u1 u2 u3
        have a1 := I1.out 1 (by omega)
        have b1 := K1.out 1 (by omega)
        have a2 := I2.out 1 (by omega)
        have b2 := K2.out 1 (by omega)
        have a3 := I3.out 1 (by omega)
        have b3 := K3.out 1 (by omega)
        have a4 := I4.out 1 (by omega)
        have b4 := K4.out 1 (by omega)
        have a5 := I5.out 1 (by omega)
        have b5 := K5.out 1 (by omega)
        have HG := Lib.hid hG
        clear hG
        go_wp2_with fail
        have LX := Lies.new wr (X 1 0) (X 1 1) (X 1 2) (X 1 3)
        have LA := LA.alloc (.cells #[.int .u64 (X 1 0), .int .u64 (X 1 1), .int .u64 (X 1 2), .int .u64 (X 1 3)] 24)
        have LB := LB.alloc (.cells #[.int .u64 (X 1 0), .int .u64 (X 1 1), .int .u64 (X 1 2), .int .u64 (X 1 3)] 24)
        have hG1 : ∀ j k, j < 3 → k < 4 → (wr.alloc (.cells #[.int .u64 (X 1 0), .int .u64 (X 1 1), .int .u64 (X 1 2), .int .u64 (X 1 3)] 24)).cell? ⟨gb, 4 * j + k, none⟩ = some (.int .u64 (X j k)) := fun j k hj hk => (Below.cell ((Below.refl wr.heap.size wr).alloc (Nat.le_refl _) _) (p := ⟨gb, 4 * j + k, none⟩) hgl).trans (HG.out j k hj hk)
        have hgl1 := Nat.lt_of_lt_of_le hgl (show wr.heap.size ≤ (wr.alloc (.cells #[.int .u64 (X 1 0), .int .u64 (X 1 1), .int .u64 (X 1 2), .int .u64 (X 1 3)] 24)).heap.size by simp)
        have BB := BB.alloc BB.size (.cells #[.int .u64 (X 1 0), .int .u64 (X 1 1), .int .u64 (X 1 2), .int .u64 (X 1 3)] 24)
        clear u0 u1 u2 u3 HG hgl
        obtain ⟨W3, hW3⟩ : ∃ W3, wr.alloc (.cells #[.int .u64 (X 1 0), .int .u64 (X 1 1), .int .u64 (X 1 2), .int .u64 (X 1 3)] 24) = W3 := ⟨_, rfl⟩
        rw [hW3] at LX LA LB hG1 hgl1 BB ⊢
        clear hW3
        generalize wr.heap.size = bX at *
        refine (a1 _).mono ?_
        rintro e W4 ⟨rfl, q1⟩
        have LX := LX.later q1
        have LA := LA.later q1
        have LB := LB.later q1
        have hG2 : ∀ j k, j < 3 → k < 4 → W4.cell? ⟨gb, 4 * j + k, none⟩ = some (.int .u64 (X j k)) := fun j k hj hk => (q1.cell (p := ⟨gb, 4 * j + k, none⟩) hgl1).trans (hG1 j k hj hk)
        have hgl2 := Nat.lt_of_lt_of_le hgl1 q1.size
        have BB := BB.trans (q1.mono BB.size)
        have HG2 := Lib.hid hG2
        clear q1 hG1 hG2 hgl1
        obtain ⟨mx0, mx1, mx2, mx3⟩ := And.intro LX.c0 (And.intro LX.c1 (And.intro LX.c2 LX.c3))
        go_wp2_with fail
        clear mx0 mx1 mx2 mx3
        refine (b1 _).mono ?_
        rintro e W5 ⟨rfl, q1⟩
        have LX := LX.later q1
        have LA := LA.later q1
        have LB := LB.later q1
        have HG3 : Hid (∀ j k, j < 3 → k < 4 → W5.cell? ⟨gb, 4 * j + k, none⟩ = some (.int .u64 (X j k))) := fun j k hj hk => (q1.cell (p := ⟨gb, 4 * j + k, none⟩) hgl2).trans (HG2.out j k hj hk)
        have hgl3 := Nat.lt_of_lt_of_le hgl2 q1.size
        have BB := BB.trans (q1.mono BB.size)
        clear q1 HG2 hgl2
        go_wp2_with fail
        have fX0 : ∀ x : Ext W5, x.w.cell? ⟨bX, 0, none⟩ = some (.int .u64 (X 1 0)) := fun x => (LX.later x.below).c0
        have fX1 : ∀ x : Ext W5, x.w.cell? ⟨bX, 1, none⟩ = some (.int .u64 (X 1 1)) := fun x => (LX.later x.below).c1
        have fX2 : ∀ x : Ext W5, x.w.cell? ⟨bX, 2, none⟩ = some (.int .u64 (X 1 2)) := fun x => (LX.later x.below).c2
        have fX3 : ∀ x : Ext W5, x.w.cell? ⟨bX, 3, none⟩ = some (.int .u64 (X 1 3)) := fun x => (LX.later x.below).c3
        have fA0 : ∀ x : Ext W5, x.w.cell? ⟨w.heap.size, 0, none⟩ = some (.int .u64 (X 0 0)) := fun x => (LA.later x.below).c0
        have fA1 : ∀ x : Ext W5, x.w.cell? ⟨w.heap.size, 1, none⟩ = some (.int .u64 (X 0 1)) := fun x => (LA.later x.below).c1
        have fA2 : ∀ x : Ext W5, x.w.cell? ⟨w.heap.size, 2, none⟩ = some (.int .u64 (X 0 2)) := fun x => (LA.later x.below).c2
        have fA3 : ∀ x : Ext W5, x.w.cell? ⟨w.heap.size, 3, none⟩ = some (.int .u64 (X 0 3)) := fun x => (LA.later x.below).c3
        have fB0 : ∀ x : Ext W5, x.w.cell? ⟨w.heap.size + 1, 0, none⟩ = some (.int .u64 (X 1 0)) := fun x => (LB.later x.below).c0
        have fB1 : ∀ x : Ext W5, x.w.cell? ⟨w.heap.size + 1, 1, none⟩ = some (.int .u64 (X 1 1)) := fun x => (LB.later x.below).c1
        have fB2 : ∀ x : Ext W5, x.w.cell? ⟨w.heap.size + 1, 2, none⟩ = some (.int .u64 (X 1 2)) := fun x => (LB.later x.below).c2
        have fB3 : ∀ x : Ext W5, x.w.cell? ⟨w.heap.size + 1, 3, none⟩ = some (.int .u64 (X 1 3)) := fun x => (LB.later x.below).c3
        refine wp_region_quietL (C := Grows W5) (by kernel_rfl) (by kernel_rfl) (grows_refl W5) ?_
        repeat (go_big_quiet_step (first | (with_reducible exact Ret.at a2 _) | (with_reducible exact Ret.at b2 _) | (with_reducible exact Ret.at a3 _) | (with_reducible exact Ret.at b3 _) | (with_reducible exact Ret.at a4 _) | (with_reducible exact Ret.at b4 _) | (with_reducible exact Ret.at a5 _) | (with_reducible exact Ret.at b5 _)))
        refine wpQuiet_nil ?_
        rintro _ ⟨x, rfl⟩
        have N1 := Lib.hid (LA.later x.below)
        have N2 := Lib.hid (LB.later x.below)
        have N3 : Hid (∀ j k, j < 3 → k < 4 → x.w.cell? ⟨gb, 4 * j + k, none⟩ = some (.int .u64 (X j k))) := fun j k hj hk => (x.below.cell (p := ⟨gb, 4 * j + k, none⟩) hgl3).trans (HG3.out j k hj hk)
        have N4 := Nat.lt_of_lt_of_le hgl3 x.below.size
        have N5 := Lib.hid (BB.trans (x.below.mono BB.size))
        clear LA LB LX BB HG3 hgl3 a1 b1 a2 b2 a3 b3 a4 b4 a5 b5
        generalize x.w = W6 at *
        go_wp2
        go_roundw
        case rel => exact ⟨2, by omega, rfl, N1.out, N2.out, N3.out, N4, N5.out⟩
        case measure => simp [intOf]
      · skip
        obtain ⟨u0, u1, u2, u3⟩ := And.intro (hG 2 0 (by omega) (by omega)) (And.intro (hG 2 1 (by omega) (by omega)) (And.intro (hG 2 2 (by omega) (by omega)) (hG 2 3 (by omega) (by omega))))
        simp only [Nat.reduceMul, Nat.reduceAdd] at u0 u1 u2 u3
        have a1 := I1.out 2 (by omega)
        have b1 := K1.out 2 (by omega)
        have a2 := I2.out 2 (by omega)
        have b2 := K2.out 2 (by omega)
        have a3 := I3.out 2 (by omega)
        have b3 := K3.out 2 (by omega)
        have a4 := I4.out 2 (by omega)
        have b4 := K4.out 2 (by omega)
        have a5 := I5.out 2 (by omega)
        have b5 := K5.out 2 (by omega)
        have HG := Lib.hid hG
        clear hG
        go_wp2_with fail
        have LX := Lies.new wr (X 2 0) (X 2 1) (X 2 2) (X 2 3)
        have LA := LA.alloc (.cells #[.int .u64 (X 2 0), .int .u64 (X 2 1), .int .u64 (X 2 2), .int .u64 (X 2 3)] 24)
        have LB := LB.alloc (.cells #[.int .u64 (X 2 0), .int .u64 (X 2 1), .int .u64 (X 2 2), .int .u64 (X 2 3)] 24)
        have hG1 : ∀ j k, j < 3 → k < 4 → (wr.alloc (.cells #[.int .u64 (X 2 0), .int .u64 (X 2 1), .int .u64 (X 2 2), .int .u64 (X 2 3)] 24)).cell? ⟨gb, 4 * j + k, none⟩ = some (.int .u64 (X j k)) := fun j k hj hk => (Below.cell ((Below.refl wr.heap.size wr).alloc (Nat.le_refl _) _) (p := ⟨gb, 4 * j + k, none⟩) hgl).trans (HG.out j k hj hk)
        have hgl1 := Nat.lt_of_lt_of_le hgl (show wr.heap.size ≤ (wr.alloc (.cells #[.int .u64 (X 2 0), .int .u64 (X 2 1), .int .u64 (X 2 2), .int .u64 (X 2 3)] 24)).heap.size by simp)
        have BB := BB.alloc BB.size (.cells #[.int .u64 (X 2 0), .int .u64 (X 2 1), .int .u64 (X 2 2), .int .u64 (X 2 3)] 24)
        clear u0 u1 u2 u3 HG hgl
        obtain ⟨W3, hW3⟩ : ∃ W3, wr.alloc (.cells #[.int .u64 (X 2 0), .int .u64 (X 2 1), .int .u64 (X 2 2), .int .u64 (X 2 3)] 24) = W3 := ⟨_, rfl⟩
        rw [hW3] at LX LA LB hG1 hgl1 BB ⊢
        clear hW3
        generalize wr.heap.size = bX at *
        refine (a1 _).mono ?_
        rintro e W4 ⟨rfl, q1⟩
        have LX := LX.later q1
        have LA := LA.later q1
        have LB := LB.later q1
        have hG2 : ∀ j k, j < 3 → k < 4 → W4.cell? ⟨gb, 4 * j + k, none⟩ = some (.int .u64 (X j k)) := fun j k hj hk => (q1.cell (p := ⟨gb, 4 * j + k, none⟩) hgl1).trans (hG1 j k hj hk)
        have hgl2 := Nat.lt_of_lt_of_le hgl1 q1.size
        have BB := BB.trans (q1.mono BB.size)
        have HG2 := Lib.hid hG2
        clear q1 hG1 hG2 hgl1
        obtain ⟨mx0, mx1, mx2, mx3⟩ := And.intro LX.c0 (And.intro LX.c1 (And.intro LX.c2 LX.c3))
        go_wp2_with fail
        clear mx0 mx1 mx2 mx3
        refine (b1 _).mono ?_
        rintro e W5 ⟨rfl, q1⟩
        have LX := LX.later q1
        have LA := LA.later q1
        have LB := LB.later q1
        have HG3 : Hid (∀ j k, j < 3 → k < 4 → W5.cell? ⟨gb, 4 * j + k, none⟩ = some (.int .u64 (X j k))) := fun j k hj hk => (q1.cell (p := ⟨gb, 4 * j + k, none⟩) hgl2).trans (HG2.out j k hj hk)
        have hgl3 := Nat.lt_of_lt_of_le hgl2 q1.size
        have BB := BB.trans (q1.mono BB.size)
        clear q1 HG2 hgl2
        go_wp2_with fail
        have fX0 : ∀ x : Ext W5, x.w.cell? ⟨bX, 0, none⟩ = some (.int .u64 (X 2 0)) := fun x => (LX.later x.below).c0
        have fX1 : ∀ x : Ext W5, x.w.cell? ⟨bX, 1, none⟩ = some (.int .u64 (X 2 1)) := fun x => (LX.later x.below).c1
        have fX2 : ∀ x : Ext W5, x.w.cell? ⟨bX, 2, none⟩ = some (.int .u64 (X 2 2)) := fun x => (LX.later x.below).c2
        have fX3 : ∀ x : Ext W5, x.w.cell? ⟨bX, 3, none⟩ = some (.int .u64 (X 2 3)) := fun x => (LX.later x.below).c3
        have fA0 : ∀ x : Ext W5, x.w.cell? ⟨w.heap.size, 0, none⟩ = some (.int .u64 (X 0 0)) := fun x => (LA.later x.below).c0
        have fA1 : ∀ x : Ext W5, x.w.cell? ⟨w.heap.size, 1, none⟩ = some (.int .u64 (X 0 1)) := fun x => (LA.later x.below).c1
        have fA2 : ∀ x : Ext W5, x.w.cell? ⟨w.heap.size, 2, none⟩ = some (.int .u64 (X 0 2)) := fun x => (LA.later x.below).c2
        have fA3 : ∀ x : Ext W5, x.w.cell? ⟨w.heap.size, 3, none⟩ = some (.int .u64 (X 0 3)) := fun x => (LA.later x.below).c3
        have fB0 : ∀ x : Ext W5, x.w.cell? ⟨w.heap.size + 1, 0, none⟩ = some (.int .u64 (X 1 0)) := fun x => (LB.later x.below).c0
        have fB1 : ∀ x : Ext W5, x.w.cell? ⟨w.heap.size + 1, 1, none⟩ = some (.int .u64 (X 1 1)) := fun x => (LB.later x.below).c1
        have fB2 : ∀ x : Ext W5, x.w.cell? ⟨w.heap.size + 1, 2, none⟩ = some (.int .u64 (X 1 2)) := fun x => (LB.later x.below).c2
        have fB3 : ∀ x : Ext W5, x.w.cell? ⟨w.heap.size + 1, 3, none⟩ = some (.int .u64 (X 1 3)) := fun x => (LB.later x.below).c3
        refine wp_region_quietL (C := Grows W5) (by kernel_rfl) (by kernel_rfl) (grows_refl W5) ?_
        repeat (go_big_quiet_step (first | (with_reducible exact Ret.at a2 _) | (with_reducible exact Ret.at b2 _) | (with_reducible exact Ret.at a3 _) | (with_reducible exact Ret.at b3 _) | (with_reducible exact Ret.at a4 _) | (with_reducible exact Ret.at b4 _) | (with_reducible exact Ret.at a5 _) | (with_reducible exact Ret.at b5 _)))
        refine wpQuiet_nil ?_
        rintro _ ⟨x, rfl⟩
        have N1 := Lib.hid (LA.later x.below)
        have N2 := Lib.hid (LB.later x.below)
        have N3 : Hid (∀ j k, j < 3 → k < 4 → x.w.cell? ⟨gb, 4 * j + k, none⟩ = some (.int .u64 (X j k))) := fun j k hj hk => (x.below.cell (p := ⟨gb, 4 * j + k, none⟩) hgl3).trans (HG3.out j k hj hk)
        have N4 := Nat.lt_of_lt_of_le hgl3 x.below.size
        have N5 := Lib.hid (BB.trans (x.below.mono BB.size))
        clear LA LB LX BB HG3 hgl3 a1 b1 a2 b2 a3 b3 a4 b4 a5 b5
        generalize x.w = W6 at *
        go_wp2
        go_roundw
        case rel => exact ⟨3, by omega, rfl, N1.out, N2.out, N3.out, N4, N5.out⟩
        case measure => simp [intOf]
    · obtain rfl : j = 3 := by omega
      clear hj hlt hG hgl I1 K1 I2 K2 I3 K3 I4 K4 I5 K5
      obtain ⟨ma0, ma1, ma2, ma3⟩ := And.intro LA.c0 (And.intro LA.c1 (And.intro LA.c2 LA.c3))
      go_wp2_with fail
      clear ma0 ma1 ma2 ma3
      refine (HT.out _).mono ?_
      rintro e W5 ⟨rfl, q1⟩
      have BB := BB.trans (q1.mono BB.size)
      clear q1 LA LB HT
      obtain ⟨hM, hts, hK, hmore⟩ := HM.out
      obtain ⟨y0, y1, y2, y3⟩ := HY.out
      have tI0 : (0 : Int) ≤ (t.size : Int) := by omega
      have tI1 : (t.size : Int) ≤ 66 := by omega
      have kI0 : (0 : Int) ≤ (K : Int) := by omega
      have kI1 : (K : Int) ≤ (t.size : Int) := by omega
      have mI0 : (0 : Int) ≤ (more.size : Int) := by omega
      have mI1 : (more.size : Int) ≤ 140737488355328 := by omega
      go_wp2_with fail
      refine (M1.out _).mono ?_
      rintro e W6 ⟨rfl, q1⟩
      have BB := BB.trans (q1.mono BB.size)
      clear q1 M1
      have sz1 : (t.extract 0 K).size = K := by rw [ByteArray.size_extract]; omega
      have sz2 : (t.extract K t.size).size = t.size - K := by rw [ByteArray.size_extract]; omega
      have sz3 : (t.extract M t.size).size = t.size - M := by rw [ByteArray.size_extract]; omega
      have sI1 : ((t.extract 0 K).size : Int) = (K : Int) := by omega
      have sI2 : ((t.extract K t.size).size : Int) ≤ 66 := by omega
      have sI3 : ((t.extract M t.size).size : Int) ≤ 66 := by omega
      have mle : (M : Int) ≤ (t.size : Int) := by omega
      have m0 : (0 : Int) ≤ (M : Int) := by omega
      have s4 : (0 : Int) ≤ ((t.extract K t.size).size : Int) := by omega
      have s5 : (0 : Int) ≤ ((t.extract M t.size).size : Int) := by omega
      have hcase : ((K : Int) + (more.size : Int) ≤ (t.size : Int) ∧ (K : Int) + (more.size : Int) = (M : Int)) ∨ ((t.size : Int) < (K : Int) + (more.size : Int) ∧ (t.size : Int) = (M : Int)) := by omega
      clear sz1 sz2 sz3 hM hts hK hmore HM HY
      rcases hcase with ⟨v1, v2⟩ | ⟨v1, v2⟩
      · go_wp2_with fail
        refine wp_region_mix (C := Grows W6) [some true, some true, some true, some true, some true, some true, some true, some true, some true, some true, some true, some true, some true, some true, some true, some true, some true, some true, some true, some true, some true, some true, some true, some true, some true, some true, none, none, some false] (by kernel_rfl) (by kernel_rfl) (by kernel_rfl) (grows_refl W6) ?_
        simp only [headOf, tailOf]
        repeat (go_big_quiet_step (fail))
        refine wpQuiet_nil ?_
        rintro _ ⟨x, rfl⟩
        have BB' := BB.trans (x.below.mono BB.size)
        have hG : ∀ j, j < 4 → (x.w.alloc (.cells #[.string s, .string t, .string ((t.extract 0 K ++ more) ++ t.extract K t.size), .string ((t.extract 0 K ++ more) ++ t.extract M t.size)] 9)).cell? ⟨x.w.heap.size, j, none⟩ = some (.string (Y j)) := by
          intro j hj
          simp only [World.cell?, show (x.w.alloc (.cells #[.string s, .string t, .string ((t.extract 0 K ++ more) ++ t.extract K t.size), .string ((t.extract 0 K ++ more) ++ t.extract M t.size)] 9)).heap[x.w.heap.size]? = _ from World.alloc_heap_new x.w _]
          rcases (show j = 0 ∨ j = 1 ∨ j = 2 ∨ j = 3 by omega) with rfl | rfl | rfl | rfl
          · rw [y0]; rfl
          · rw [y1]; rfl
          · rw [y2]; rfl
          · rw [y3]; rfl
        have hgl : x.w.heap.size < (x.w.alloc (.cells #[.string s, .string t, .string ((t.extract 0 K ++ more) ++ t.extract K t.size), .string ((t.extract 0 K ++ more) ++ t.extract M t.size)] 9)).heap.size := by simp
        have BB := BB'.alloc BB'.size (.cells #[.string s, .string t, .string ((t.extract 0 K ++ more) ++ t.extract K t.size), .string ((t.extract 0 K ++ more) ++ t.extract M t.size)] 9)
        clear BB' y0 y1 y2 y3
        generalize x.w = W7 at *
        go_wp2
        rw [calmPost_normal]
        obtain ⟨W8, hW8⟩ : ∃ W8, W7.alloc (.cells #[.string s, .string t, .string ((t.extract 0 K ++ more) ++ t.extract K t.size), .string ((t.extract 0 K ++ more) ++ t.extract M t.size)] 9) = W8 := ⟨_, rfl⟩
        rw [hW8] at hG hgl BB ⊢
        clear hW8
        generalize W7.heap.size = gs at *
        go_wp2
        go_loopw [157] (fun i wr => ∃ j : Nat, j ≤ 4 ∧ i = .int .i64 (j : Int) ∧ (∀ j, j < 4 → wr.cell? ⟨gs, j, none⟩ = some (.string (Y j))) ∧ gs < wr.heap.size ∧ Below w.heap.size w wr) (fun i _ => 4 - (intOf i).toNat)
        case atStart => exact ⟨0, by omega, rfl, hG, hgl, BB⟩
        case round =>
          clear hG hgl BB
          obtain ⟨j, hj, rfl, hG, hgl, BB⟩ := hrel
          by_cases hlt : j < 4
          · have hjI : (j : Int) < 4 := by omega
            have hj0 : (0 : Int) ≤ (j : Int) := by omega
            have cj := hG j hlt
            have a2 := M2.out j hlt
            have b2 := O2.out j hlt
            have a3 := M3.out j hlt
            have b3 := O3.out j hlt
            have HG := Lib.hid hG
            have HJ := Lib.hid hlt
            clear hj hlt hG
            go_wp2_with fail
            refine (a2 _).mono ?_
            rintro e v1 ⟨rfl, q1⟩
            have LP := Lies.new v1 (P j 0) (P j 1) (P j 2) (P j 3)
            have HG1 : Hid (∀ jj, jj < 4 → (v1.alloc (.cells #[.int .u64 (P j 0), .int .u64 (P j 1), .int .u64 (P j 2), .int .u64 (P j 3)] 24)).cell? ⟨gs, jj, none⟩ = some (.string (Y jj))) := fun jj hj => ((Below.cell ((Below.refl v1.heap.size v1).alloc (Nat.le_refl _) _) (p := ⟨gs, jj, none⟩) (Nat.lt_of_lt_of_le hgl q1.size)).trans (q1.cell (p := ⟨gs, jj, none⟩) hgl)).trans (HG.out jj hj)
            have hgl1 : gs < (v1.alloc (.cells #[.int .u64 (P j 0), .int .u64 (P j 1), .int .u64 (P j 2), .int .u64 (P j 3)] 24)).heap.size := by have := q1.size; simp; omega
            have BB' := BB.trans (q1.mono BB.size)
            have BB1 := BB'.alloc BB'.size (.cells #[.int .u64 (P j 0), .int .u64 (P j 1), .int .u64 (P j 2), .int .u64 (P j 3)] 24)
            clear q1 cj HG hgl BB BB'
            go_wp2_with fail
            obtain ⟨v2, hv2⟩ : ∃ v2, v1.alloc (.cells #[.int .u64 (P j 0), .int .u64 (P j 1), .int .u64 (P j 2), .int .u64 (P j 3)] 24) = v2 := ⟨_, rfl⟩
            rw [hv2] at LP HG1 hgl1 BB1 ⊢
            clear hv2
            generalize v1.heap.size = bP at *
            refine (b2 _).mono ?_
            rintro e v3 ⟨rfl, q1⟩
            have LP1 := (LP.later q1).alloc (.cells #[.int .u64 (P j 0), .int .u64 (P j 1), .int .u64 (P j 2), .int .u64 (P j 3)] 24)
            have LQ := Lies.new v3 (P j 0) (P j 1) (P j 2) (P j 3)
            have HG2 : Hid (∀ jj, jj < 4 → (v3.alloc (.cells #[.int .u64 (P j 0), .int .u64 (P j 1), .int .u64 (P j 2), .int .u64 (P j 3)] 24)).cell? ⟨gs, jj, none⟩ = some (.string (Y jj))) := fun jj hj => ((Below.cell ((Below.refl v3.heap.size v3).alloc (Nat.le_refl _) _) (p := ⟨gs, jj, none⟩) (Nat.lt_of_lt_of_le hgl1 q1.size)).trans (q1.cell (p := ⟨gs, jj, none⟩) hgl1)).trans (HG1.out jj hj)
            have hgl2 : gs < (v3.alloc (.cells #[.int .u64 (P j 0), .int .u64 (P j 1), .int .u64 (P j 2), .int .u64 (P j 3)] 24)).heap.size := by have := q1.size; simp; omega
            have BB' := BB1.trans (q1.mono BB1.size)
            have BB2 := BB'.alloc BB'.size (.cells #[.int .u64 (P j 0), .int .u64 (P j 1), .int .u64 (P j 2), .int .u64 (P j 3)] 24)
            clear q1 LP HG1 hgl1 BB1 BB'
            obtain ⟨mp0, mp1, mp2, mp3⟩ := And.intro LP1.c0 (And.intro LP1.c1 (And.intro LP1.c2 LP1.c3))
            obtain ⟨mq0, mq1, mq2, mq3⟩ := And.intro LQ.c0 (And.intro LQ.c1 (And.intro LQ.c2 LQ.c3))
            go_wp2_with fail
            obtain ⟨v4, hv4⟩ : ∃ v4, v3.alloc (.cells #[.int .u64 (P j 0), .int .u64 (P j 1), .int .u64 (P j 2), .int .u64 (P j 3)] 24) = v4 := ⟨_, rfl⟩
            rw [hv4] at HG2 hgl2 BB2 ⊢
            clear hv4 LP1 LQ mp0 mp1 mp2 mp3 mq0 mq1 mq2 mq3
            refine (a3 _).mono ?_
            rintro e v5 ⟨rfl, q1⟩
            have HG3 : Hid (∀ jj, jj < 4 → v5.cell? ⟨gs, jj, none⟩ = some (.string (Y jj))) := fun jj hj => (q1.cell (p := ⟨gs, jj, none⟩) hgl2).trans (HG2.out jj hj)
            have hgl3 := Nat.lt_of_lt_of_le hgl2 q1.size
            have BB3 := BB2.trans (q1.mono BB2.size)
            clear q1 HG2 hgl2 BB2
            go_wp2_with fail
            refine (b3 _).mono ?_
            rintro e v6 ⟨rfl, q1⟩
            have HG4 : Hid (∀ jj, jj < 4 → v6.cell? ⟨gs, jj, none⟩ = some (.string (Y jj))) := fun jj hj => (q1.cell (p := ⟨gs, jj, none⟩) hgl3).trans (HG3.out jj hj)
            have hgl4 := Lib.hid (Nat.lt_of_lt_of_le hgl3 q1.size)
            have BB4 := Lib.hid (BB3.trans (q1.mono BB3.size))
            clear q1 HG3 hgl3 BB3
            go_wp2
            go_roundw
            case rel => exact ⟨j + 1, HJ.out, by simp, HG4.out, hgl4.out, BB4.out⟩
            case measure => have := HJ.out; simp [intOf]; omega
          · obtain rfl : j = 4 := by omega
            have HB := Lib.hid BB
            clear hj hlt hG hgl BB
            go_wp2
            go_ret
            exact ⟨rfl, HB.out⟩
      · go_wp2_with fail
        refine wp_region_mix (C := Grows W6) [some true, some true, some true, some true, some true, some true, some true, some true, some true, some true, some true, some true, some true, some true, some true, some true, some true, some true, some true, some true, some true, some true, some true, some true, some true, some true, none, none, some false] (by kernel_rfl) (by kernel_rfl) (by kernel_rfl) (grows_refl W6) ?_
        simp only [headOf, tailOf]
        repeat (go_big_quiet_step (fail))
        refine wpQuiet_nil ?_
        rintro _ ⟨x, rfl⟩
        have BB' := BB.trans (x.below.mono BB.size)
        have hG : ∀ j, j < 4 → (x.w.alloc (.cells #[.string s, .string t, .string ((t.extract 0 K ++ more) ++ t.extract K t.size), .string ((t.extract 0 K ++ more) ++ t.extract M t.size)] 9)).cell? ⟨x.w.heap.size, j, none⟩ = some (.string (Y j)) := by
          intro j hj
          simp only [World.cell?, show (x.w.alloc (.cells #[.string s, .string t, .string ((t.extract 0 K ++ more) ++ t.extract K t.size), .string ((t.extract 0 K ++ more) ++ t.extract M t.size)] 9)).heap[x.w.heap.size]? = _ from World.alloc_heap_new x.w _]
          rcases (show j = 0 ∨ j = 1 ∨ j = 2 ∨ j = 3 by omega) with rfl | rfl | rfl | rfl
          · rw [y0]; rfl
          · rw [y1]; rfl
          · rw [y2]; rfl
          · rw [y3]; rfl
        have hgl : x.w.heap.size < (x.w.alloc (.cells #[.string s, .string t, .string ((t.extract 0 K ++ more) ++ t.extract K t.size), .string ((t.extract 0 K ++ more) ++ t.extract M t.size)] 9)).heap.size := by simp
        have BB := BB'.alloc BB'.size (.cells #[.string s, .string t, .string ((t.extract 0 K ++ more) ++ t.extract K t.size), .string ((t.extract 0 K ++ more) ++ t.extract M t.size)] 9)
        clear BB' y0 y1 y2 y3
        generalize x.w = W7 at *
        go_wp2
        rw [calmPost_normal]
        obtain ⟨W8, hW8⟩ : ∃ W8, W7.alloc (.cells #[.string s, .string t, .string ((t.extract 0 K ++ more) ++ t.extract K t.size), .string ((t.extract 0 K ++ more) ++ t.extract M t.size)] 9) = W8 := ⟨_, rfl⟩
        rw [hW8] at hG hgl BB ⊢
        clear hW8
        generalize W7.heap.size = gs at *
        go_wp2
        go_loopw [157] (fun i wr => ∃ j : Nat, j ≤ 4 ∧ i = .int .i64 (j : Int) ∧ (∀ j, j < 4 → wr.cell? ⟨gs, j, none⟩ = some (.string (Y j))) ∧ gs < wr.heap.size ∧ Below w.heap.size w wr) (fun i _ => 4 - (intOf i).toNat)
        case atStart => exact ⟨0, by omega, rfl, hG, hgl, BB⟩
        case round =>
          clear hG hgl BB
          obtain ⟨j, hj, rfl, hG, hgl, BB⟩ := hrel
          by_cases hlt : j < 4
          · have hjI : (j : Int) < 4 := by omega
            have hj0 : (0 : Int) ≤ (j : Int) := by omega
            have cj := hG j hlt
            have a2 := M2.out j hlt
            have b2 := O2.out j hlt
            have a3 := M3.out j hlt
            have b3 := O3.out j hlt
            have HG := Lib.hid hG
            have HJ := Lib.hid hlt
            clear hj hlt hG
            go_wp2_with fail
            refine (a2 _).mono ?_
            rintro e v1 ⟨rfl, q1⟩
            have LP := Lies.new v1 (P j 0) (P j 1) (P j 2) (P j 3)
            have HG1 : Hid (∀ jj, jj < 4 → (v1.alloc (.cells #[.int .u64 (P j 0), .int .u64 (P j 1), .int .u64 (P j 2), .int .u64 (P j 3)] 24)).cell? ⟨gs, jj, none⟩ = some (.string (Y jj))) := fun jj hj => ((Below.cell ((Below.refl v1.heap.size v1).alloc (Nat.le_refl _) _) (p := ⟨gs, jj, none⟩) (Nat.lt_of_lt_of_le hgl q1.size)).trans (q1.cell (p := ⟨gs, jj, none⟩) hgl)).trans (HG.out jj hj)
            have hgl1 : gs < (v1.alloc (.cells #[.int .u64 (P j 0), .int .u64 (P j 1), .int .u64 (P j 2), .int .u64 (P j 3)] 24)).heap.size := by have := q1.size; simp; omega
            have BB' := BB.trans (q1.mono BB.size)
            have BB1 := BB'.alloc BB'.size (.cells #[.int .u64 (P j 0), .int .u64 (P j 1), .int .u64 (P j 2), .int .u64 (P j 3)] 24)
            clear q1 cj HG hgl BB BB'
            go_wp2_with fail
            obtain ⟨v2, hv2⟩ : ∃ v2, v1.alloc (.cells #[.int .u64 (P j 0), .int .u64 (P j 1), .int .u64 (P j 2), .int .u64 (P j 3)] 24) = v2 := ⟨_, rfl⟩
            rw [hv2] at LP HG1 hgl1 BB1 ⊢
            clear hv2
            generalize v1.heap.size = bP at *
            refine (b2 _).mono ?_
            rintro e v3 ⟨rfl, q1⟩
            have LP1 := (LP.later q1).alloc (.cells #[.int .u64 (P j 0), .int .u64 (P j 1), .int .u64 (P j 2), .int .u64 (P j 3)] 24)
            have LQ := Lies.new v3 (P j 0) (P j 1) (P j 2) (P j 3)
            have HG2 : Hid (∀ jj, jj < 4 → (v3.alloc (.cells #[.int .u64 (P j 0), .int .u64 (P j 1), .int .u64 (P j 2), .int .u64 (P j 3)] 24)).cell? ⟨gs, jj, none⟩ = some (.string (Y jj))) := fun jj hj => ((Below.cell ((Below.refl v3.heap.size v3).alloc (Nat.le_refl _) _) (p := ⟨gs, jj, none⟩) (Nat.lt_of_lt_of_le hgl1 q1.size)).trans (q1.cell (p := ⟨gs, jj, none⟩) hgl1)).trans (HG1.out jj hj)
            have hgl2 : gs < (v3.alloc (.cells #[.int .u64 (P j 0), .int .u64 (P j 1), .int .u64 (P j 2), .int .u64 (P j 3)] 24)).heap.size := by have := q1.size; simp; omega
            have BB' := BB1.trans (q1.mono BB1.size)
            have BB2 := BB'.alloc BB'.size (.cells #[.int .u64 (P j 0), .int .u64 (P j 1), .int .u64 (P j 2), .int .u64 (P j 3)] 24)
            clear q1 LP HG1 hgl1 BB1 BB'
            obtain ⟨mp0, mp1, mp2, mp3⟩ := And.intro LP1.c0 (And.intro LP1.c1 (And.intro LP1.c2 LP1.c3))
            obtain ⟨mq0, mq1, mq2, mq3⟩ := And.intro LQ.c0 (And.intro LQ.c1 (And.intro LQ.c2 LQ.c3))
            go_wp2_with fail
            obtain ⟨v4, hv4⟩ : ∃ v4, v3.alloc (.cells #[.int .u64 (P j 0), .int .u64 (P j 1), .int .u64 (P j 2), .int .u64 (P j 3)] 24) = v4 := ⟨_, rfl⟩
            rw [hv4] at HG2 hgl2 BB2 ⊢
            clear hv4 LP1 LQ mp0 mp1 mp2 mp3 mq0 mq1 mq2 mq3
            refine (a3 _).mono ?_
            rintro e v5 ⟨rfl, q1⟩
            have HG3 : Hid (∀ jj, jj < 4 → v5.cell? ⟨gs, jj, none⟩ = some (.string (Y jj))) := fun jj hj => (q1.cell (p := ⟨gs, jj, none⟩) hgl2).trans (HG2.out jj hj)
            have hgl3 := Nat.lt_of_lt_of_le hgl2 q1.size
            have BB3 := BB2.trans (q1.mono BB2.size)
            clear q1 HG2 hgl2 BB2
            go_wp2_with fail
            refine (b3 _).mono ?_
            rintro e v6 ⟨rfl, q1⟩
            have HG4 : Hid (∀ jj, jj < 4 → v6.cell? ⟨gs, jj, none⟩ = some (.string (Y jj))) := fun jj hj => (q1.cell (p := ⟨gs, jj, none⟩) hgl3).trans (HG3.out jj hj)
            have hgl4 := Lib.hid (Nat.lt_of_lt_of_le hgl3 q1.size)
            have BB4 := Lib.hid (BB3.trans (q1.mono BB3.size))
            clear q1 HG3 hgl3 BB3
            go_wp2
            go_roundw
            case rel => exact ⟨j + 1, HJ.out, by simp, HG4.out, hgl4.out, BB4.out⟩
            case measure => have := HJ.out; simp [intOf]; omega
          · obtain rfl : j = 4 := by omega
            have HB := Lib.hid BB
            clear hj hlt hG hgl BB
            go_wp2
            go_ret
            exact ⟨rfl, HB.out⟩
end Go.Proofs.YtgejdkiehcpinaaDoor
