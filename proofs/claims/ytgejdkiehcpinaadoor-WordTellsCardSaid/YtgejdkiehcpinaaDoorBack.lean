/- FromBytes undoes Bytes, Parse Hex, Int Of; Sub undoes Add: the law's walk over what the calls answer. -/
import Derived.Test.YtgejdkiehcpinaaDoorAwake
namespace Go.Proofs.YtgejdkiehcpinaaDoor
open Go Go.RowKit
attribute [local go_sem] Oper.semAt_some Grows wide_fn eq4

/-- What a raw number speaks of, of m things. -/
def pickN (c m : Int) : Int := (if c < 0 then -(c + 1) else c) % m
theorem pick_ret (c : Int) (hc : I64 c) (m : Int) (hm : 0 < m) (hm2 : m ≤ 4611686018427387903) : Ret Tryd.prog 27 #[.int .i64 c, .int .i64 m] (.int .i64 (pickN c m)) := by
  refine Ret.of_same fun w => ?_
  unfold I64 at hc
  unfold pickN
  by_cases h : c < 0
  · rw [if_pos h]
    have h0 : (0 : Int) ≤ -(c + 1) := by omega
    have h1 : -(c + 1) < 9223372036854775808 := by omega
    have q0 := Int.emod_nonneg (-(c + 1)) (show m ≠ 0 by omega)
    have q1 := Int.emod_lt_of_pos (-(c + 1)) hm
    have e := Int.tmod_eq_emod_of_nonneg h0 (b := m)
    go_enter Tryd.func27, Tryd.ntmps27
    go_wp2
    go_ret
    exact ⟨rfl, rfl⟩
  · rw [if_neg h]
    have q0 := Int.emod_nonneg c (show m ≠ 0 by omega)
    have q1 := Int.emod_lt_of_pos c hm
    have e := Int.tmod_eq_emod_of_nonneg (show 0 ≤ c by omega) (b := m)
    go_enter Tryd.func27, Tryd.ntmps27
    go_wp2
    go_ret
    exact ⟨rfl, rfl⟩

set_option maxRecDepth 100000 in
set_option maxHeartbeats 4000000 in
theorem back_walk (a b s d z : Nat → Int) (h t : ByteArray) (n k : Int) (ht : (t.size : Int) = 32)
    (h1 : Ret Tryd.prog 23 #[.agg #[.int .u64 (a 0), .int .u64 (a 1), .int .u64 (a 2), .int .u64 (a 3)]] (.string h))
    (h2 : Ret Tryd.prog 28 #[.string h] (.tuple #[.agg #[.int .u64 (a 0), .int .u64 (a 1), .int .u64 (a 2), .int .u64 (a 3)], .int .i64 0]))
    (h3 : Ret Tryd.prog 27 #[.int .i64 n, .int .i64 4611686018427387903] (.int .i64 k))
    (h4 : Ret Tryd.prog 11 #[.int .i64 k] (.agg #[.int .u64 (z 0), .int .u64 (z 1), .int .u64 (z 2), .int .u64 (z 3)]))
    (h5 : Ret Tryd.prog 19 #[.agg #[.int .u64 (z 0), .int .u64 (z 1), .int .u64 (z 2), .int .u64 (z 3)]] (.tuple #[.int .i64 k, .bool true]))
    (h6 : Ret Tryd.prog 21 #[.agg #[.int .u64 (a 0), .int .u64 (a 1), .int .u64 (a 2), .int .u64 (a 3)]] (.string t))
    (h7 : Ret Tryd.prog 30 #[.string t] (.agg #[.int .u64 (a 0), .int .u64 (a 1), .int .u64 (a 2), .int .u64 (a 3)]))
    (h8 : Ret Tryd.prog 13 #[.agg #[.int .u64 (a 0), .int .u64 (a 1), .int .u64 (a 2), .int .u64 (a 3)], .agg #[.int .u64 (b 0), .int .u64 (b 1), .int .u64 (b 2), .int .u64 (b 3)]] (.agg #[.int .u64 (s 0), .int .u64 (s 1), .int .u64 (s 2), .int .u64 (s 3)]))
    (h9 : Ret Tryd.prog 15 #[.agg #[.int .u64 (s 0), .int .u64 (s 1), .int .u64 (s 2), .int .u64 (s 3)], .agg #[.int .u64 (b 0), .int .u64 (b 1), .int .u64 (b 2), .int .u64 (b 3)]] (.agg #[.int .u64 (a 0), .int .u64 (a 1), .int .u64 (a 2), .int .u64 (a 3)]))
    (h10 : Ret Tryd.prog 15 #[.agg #[.int .u64 (a 0), .int .u64 (a 1), .int .u64 (a 2), .int .u64 (a 3)], .agg #[.int .u64 (b 0), .int .u64 (b 1), .int .u64 (b 2), .int .u64 (b 3)]] (.agg #[.int .u64 (d 0), .int .u64 (d 1), .int .u64 (d 2), .int .u64 (d 3)]))
    (h11 : Ret Tryd.prog 13 #[.agg #[.int .u64 (d 0), .int .u64 (d 1), .int .u64 (d 2), .int .u64 (d 3)], .agg #[.int .u64 (b 0), .int .u64 (b 1), .int .u64 (b 2), .int .u64 (b 3)]] (.agg #[.int .u64 (a 0), .int .u64 (a 1), .int .u64 (a 2), .int .u64 (a 3)]))
    (h12 : Ret Tryd.prog 30 #[.string ((⟨#[97, 98, 99]⟩ : ByteArray) ++ t)] (.agg #[.int .u64 (a 0), .int .u64 (a 1), .int .u64 (a 2), .int .u64 (a 3)]))
    (h13 : Ret Tryd.prog 15 #[.agg #[.int .u64 (a 0), .int .u64 (a 1), .int .u64 (a 2), .int .u64 (a 3)], .agg #[.int .u64 (a 0), .int .u64 (a 1), .int .u64 (a 2), .int .u64 (a 3)]] (.agg #[.int .u64 0, .int .u64 0, .int .u64 0, .int .u64 0])) :
    Ret Tryd.prog 4 #[.agg #[.int .u64 (a 0), .int .u64 (a 1), .int .u64 (a 2), .int .u64 (a 3)], .agg #[.int .u64 (b 0), .int .u64 (b 1), .int .u64 (b 2), .int .u64 (b 3)], .int .i64 n] (.bool true) := by
  intro w
  have k1 := awake_ret
  have LA := ((Lies.new w (a 0) (a 1) (a 2) (a 3)).alloc (.cells #[.int .u64 (b 0), .int .u64 (b 1), .int .u64 (b 2), .int .u64 (b 3)] 24))
  have LB := Lies.new (w.alloc (.cells #[.int .u64 (a 0), .int .u64 (a 1), .int .u64 (a 2), .int .u64 (a 3)] 24)) (b 0) (b 1) (b 2) (b 3)
  have BB := ((Below.refl _ w).alloc (Nat.le_refl _) (.cells #[.int .u64 (a 0), .int .u64 (a 1), .int .u64 (a 2), .int .u64 (a 3)] 24)).alloc (by simp) (.cells #[.int .u64 (b 0), .int .u64 (b 1), .int .u64 (b 2), .int .u64 (b 3)] 24)
  rw [World.size_alloc] at LB
  go_enter Tryd.func4, Tryd.ntmps4
  go_wp2_with fail
  obtain ⟨W0, hW0⟩ : ∃ W0, (w.alloc (.cells #[.int .u64 (a 0), .int .u64 (a 1), .int .u64 (a 2), .int .u64 (a 3)] 24)).alloc (.cells #[.int .u64 (b 0), .int .u64 (b 1), .int .u64 (b 2), .int .u64 (b 3)] 24) = W0 := ⟨_, rfl⟩
  rw [hW0] at LA LB BB ⊢
  clear hW0
  refine (k1 _).mono ?_
  rintro e w1 ⟨rfl, hb1⟩
  have LA1 := LA.later hb1
  have LB1 := LB.later hb1
  have B1 := BB.trans (hb1.mono BB.size)
  obtain ⟨m0, m1, m2, m3⟩ := And.intro LA1.c0 (And.intro LA1.c1 (And.intro LA1.c2 LA1.c3))
  clear LA LB BB hb1 k1
  go_wp2_with fail
  clear m0 m1 m2 m3
  refine (h1 _).mono ?_
  rintro e w2 ⟨rfl, hb2⟩
  go_wp2_with fail
  refine (h2 _).mono ?_
  rintro e w3 ⟨rfl, hb3⟩
  go_wp2_with fail
  have LA2 := ((LA1.later hb2).later hb3).alloc (.cells #[.int .u64 (a 0), .int .u64 (a 1), .int .u64 (a 2), .int .u64 (a 3)] 24)
  have LB2 := ((LB1.later hb2).later hb3).alloc (.cells #[.int .u64 (a 0), .int .u64 (a 1), .int .u64 (a 2), .int .u64 (a 3)] 24)
  have LX2 := Lies.new w3 (a 0) (a 1) (a 2) (a 3)
  have B2' := B1.trans (hb2.mono B1.size)
  have B2 := (B2'.trans (hb3.mono B2'.size)).alloc (Nat.le_trans B2'.size hb3.size) (.cells #[.int .u64 (a 0), .int .u64 (a 1), .int .u64 (a 2), .int .u64 (a 3)] 24)
  obtain ⟨W1, hW1⟩ : ∃ W1, w3.alloc (.cells #[.int .u64 (a 0), .int .u64 (a 1), .int .u64 (a 2), .int .u64 (a 3)] 24) = W1 := ⟨_, rfl⟩
  rw [hW1] at LA2 LB2 LX2 B2 ⊢
  clear hW1 hb2 hb3 LA1 LB1 B1 B2'
  generalize w3.heap.size = bX at *
  refine (h3 _).mono ?_
  rintro e w4 ⟨rfl, hb4⟩
  go_wp2_with fail
  refine (h4 _).mono ?_
  rintro e w5 ⟨rfl, hb5⟩
  go_wp2_with fail
  refine (h5 _).mono ?_
  rintro e w6 ⟨rfl, hb6⟩
  have hb := (hb4.trans (hb5.mono hb4.size)).trans (hb6.mono (Nat.le_trans hb4.size hb5.size))
  have LA3 := LA2.later hb
  have LB3 := LB2.later hb
  have LX3 := LX2.later hb
  have B3 := B2.trans (hb.mono B2.size)
  obtain ⟨m0, m1, m2, m3⟩ := And.intro LA3.c0 (And.intro LA3.c1 (And.intro LA3.c2 LA3.c3))
  clear LA2 LB2 LX2 B2 hb4 hb5 hb6 hb
  go_wp2_with fail
  clear m0 m1 m2 m3
  refine (h6 _).mono ?_
  rintro e W2 ⟨rfl, hb7⟩
  have LA := LA3.later hb7
  have LB := LB3.later hb7
  have LX := LX3.later hb7
  have BF := Lib.hid (B3.trans (hb7.mono B3.size))
  clear LA3 LB3 LX3 B3 hb7
  go_wp2_with fail
  have fA0 : ∀ x : Ext W2, x.w.cell? ⟨w.heap.size, 0, none⟩ = some (.int .u64 (a 0)) := fun x => (LA.later x.below).c0
  have fA1 : ∀ x : Ext W2, x.w.cell? ⟨w.heap.size, 1, none⟩ = some (.int .u64 (a 1)) := fun x => (LA.later x.below).c1
  have fA2 : ∀ x : Ext W2, x.w.cell? ⟨w.heap.size, 2, none⟩ = some (.int .u64 (a 2)) := fun x => (LA.later x.below).c2
  have fA3 : ∀ x : Ext W2, x.w.cell? ⟨w.heap.size, 3, none⟩ = some (.int .u64 (a 3)) := fun x => (LA.later x.below).c3
  have fB0 : ∀ x : Ext W2, x.w.cell? ⟨w.heap.size + 1, 0, none⟩ = some (.int .u64 (b 0)) := fun x => (LB.later x.below).c0
  have fB1 : ∀ x : Ext W2, x.w.cell? ⟨w.heap.size + 1, 1, none⟩ = some (.int .u64 (b 1)) := fun x => (LB.later x.below).c1
  have fB2 : ∀ x : Ext W2, x.w.cell? ⟨w.heap.size + 1, 2, none⟩ = some (.int .u64 (b 2)) := fun x => (LB.later x.below).c2
  have fB3 : ∀ x : Ext W2, x.w.cell? ⟨w.heap.size + 1, 3, none⟩ = some (.int .u64 (b 3)) := fun x => (LB.later x.below).c3
  have fX0 : ∀ x : Ext W2, x.w.cell? ⟨bX, 0, none⟩ = some (.int .u64 (a 0)) := fun x => (LX.later x.below).c0
  have fX1 : ∀ x : Ext W2, x.w.cell? ⟨bX, 1, none⟩ = some (.int .u64 (a 1)) := fun x => (LX.later x.below).c1
  have fX2 : ∀ x : Ext W2, x.w.cell? ⟨bX, 2, none⟩ = some (.int .u64 (a 2)) := fun x => (LX.later x.below).c2
  have fX3 : ∀ x : Ext W2, x.w.cell? ⟨bX, 3, none⟩ = some (.int .u64 (a 3)) := fun x => (LX.later x.below).c3
  clear LA LB LX
  refine wp_region_quietL (C := Grows W2) (by kernel_rfl) (by kernel_rfl) (grows_refl W2) ?_
  repeat (go_big_quiet_step (first | (with_reducible exact Ret.at h1 _) | (with_reducible exact Ret.at h2 _) | (with_reducible exact Ret.at h3 _) | (with_reducible exact Ret.at h4 _) | (with_reducible exact Ret.at h5 _) | (with_reducible exact Ret.at h6 _) | (with_reducible exact Ret.at h7 _) | (with_reducible exact Ret.at h8 _) | (with_reducible exact Ret.at h9 _) | (with_reducible exact Ret.at h10 _) | (with_reducible exact Ret.at h11 _) | (with_reducible exact Ret.at h12 _) | (with_reducible exact Ret.at h13 _)))
  refine wpQuiet_nil ?_
  rintro _ ⟨x, rfl⟩
  go_wp2
  go_ret
  exact ⟨rfl, BF.out.trans (x.below.mono BF.out.size)⟩
end Go.Proofs.YtgejdkiehcpinaaDoor
