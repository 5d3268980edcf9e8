/- A word doubled as often as it has bits is 0, and is the sum of its parts: the law's walk over what the calls answer. -/
import Derived.Test.YtgejdkiehcpinaaDoorAwake
namespace Go.Proofs.YtgejdkiehcpinaaDoor
open Go Go.RowKit
attribute [local go_sem] Oper.semAt_some Grows wide_fn eq4

/-- Four cells of a block written. -/
theorem Below.put4 {n : Nat} {w W : World} {B : Nat} (h : Below n w W) (hB : n ≤ B) (a b c d : Value) : Below n w ((((W.setCell ⟨B, 0, none⟩ a).setCell ⟨B, 1, none⟩ b).setCell ⟨B, 2, none⟩ c).setCell ⟨B, 3, none⟩ d) :=
  (((h.setCell (p := ⟨B, 0, none⟩) hB _).setCell (p := ⟨B, 1, none⟩) hB _).setCell (p := ⟨B, 2, none⟩) hB _).setCell (p := ⟨B, 3, none⟩) hB _
theorem Arr4.other4 {W : World} {B B' : Nat} {t : TypeId} {m : Nat → Int} (h : Arr4 W B t m) (hne : B ≠ B') (a b c d : Value) : Arr4 ((((W.setCell ⟨B', 0, none⟩ a).setCell ⟨B', 1, none⟩ b).setCell ⟨B', 2, none⟩ c).setCell ⟨B', 3, none⟩ d) B t m :=
  (((h.other (p := ⟨B', 0, none⟩) hne _).other (p := ⟨B', 1, none⟩) hne _).other (p := ⟨B', 2, none⟩) hne _).other (p := ⟨B', 3, none⟩) hne _
theorem Arr4.later {W W' : World} {B : Nat} {t : TypeId} {m : Nat → Int} (h : Arr4 W B t m) (hb : Below W.heap.size W W') : Arr4 W' B t m := h.below hb h.lt
theorem Arr4.mk4 (W : World) (t : TypeId) (m : Nat → Int) : Arr4 (W.alloc (.cells #[.int .u64 (m 0), .int .u64 (m 1), .int .u64 (m 2), .int .u64 (m 3)] t)) W.heap.size t m := World.alloc_heap_new W _
theorem Arr4.mk0 (W : World) (t : TypeId) : Arr4 (W.alloc (.cells #[.int .u64 0, .int .u64 0, .int .u64 0, .int .u64 0] t)) W.heap.size t (fun _ => 0) := World.alloc_heap_new W _

set_option maxRecDepth 100000 in
set_option maxHeartbeats 4000000 in
theorem doubles_walk (v : Nat → Int) (X : Nat → Nat → Int) (S : Nat → Nat → Nat → Int) (hx0 : X 0 = v) (hs0 : S 0 0 = fun _ => 0) (hxe : X 256 = fun _ => 0) (hse : S 4 0 = v)
    (hX : ∀ t, t < 256 → Ret Tryd.prog 13 #[.agg #[.int .u64 (X t 0), .int .u64 (X t 1), .int .u64 (X t 2), .int .u64 (X t 3)], .agg #[.int .u64 (X t 0), .int .u64 (X t 1), .int .u64 (X t 2), .int .u64 (X t 3)]] (.agg #[.int .u64 (X (t + 1) 0), .int .u64 (X (t + 1) 1), .int .u64 (X (t + 1) 2), .int .u64 (X (t + 1) 3)]))
    (hS : ∀ s k, s < 4 → k < 64 → Ret Tryd.prog 13 #[.agg #[.int .u64 (S s k 0), .int .u64 (S s k 1), .int .u64 (S s k 2), .int .u64 (S s k 3)], .agg #[.int .u64 (S s k 0), .int .u64 (S s k 1), .int .u64 (S s k 2), .int .u64 (S s k 3)]] (.agg #[.int .u64 (S s (k + 1) 0), .int .u64 (S s (k + 1) 1), .int .u64 (S s (k + 1) 2), .int .u64 (S s (k + 1) 3)]))
    (hP : ∀ s q, q + s = 3 → Ret Tryd.prog 13 #[.agg #[.int .u64 (S s 64 0), .int .u64 (S s 64 1), .int .u64 (S s 64 2), .int .u64 (S s 64 3)], .agg #[.int .u64 (v q), .int .u64 0, .int .u64 0, .int .u64 0]] (.agg #[.int .u64 (S (s + 1) 0 0), .int .u64 (S (s + 1) 0 1), .int .u64 (S (s + 1) 0 2), .int .u64 (S (s + 1) 0 3)])) :
    Ret Tryd.prog 8 #[.agg #[.int .u64 (v 0), .int .u64 (v 1), .int .u64 (v 2), .int .u64 (v 3)]] (.bool true) := by
  intro w
  have k1 := awake_ret
  have HX := Lib.hid hX
  have HS := Lib.hid hS
  have HP := Lib.hid hP
  have HX0 := Lib.hid hx0
  have HS0 := Lib.hid hs0
  have HXE := Lib.hid hxe
  have HSE := Lib.hid hse
  clear hX hS hP hx0 hs0 hxe hse
  have AV := Arr4.mk4 w 24 v
  have BB := (Below.refl _ w).alloc (Nat.le_refl _) (.cells #[.int .u64 (v 0), .int .u64 (v 1), .int .u64 (v 2), .int .u64 (v 3)] 24)
  go_enter Tryd.func8, Tryd.ntmps8
  go_wp2_with fail
  obtain ⟨W0, hW0⟩ : ∃ W0, w.alloc (.cells #[.int .u64 (v 0), .int .u64 (v 1), .int .u64 (v 2), .int .u64 (v 3)] 24) = W0 := ⟨_, rfl⟩
  rw [hW0] at AV BB ⊢
  clear hW0
  refine (k1 _).mono ?_
  rintro e w1 ⟨rfl, hb1⟩
  have AV1 := AV.later hb1
  have B1 := BB.trans (hb1.mono BB.size)
  have c0 := AV1.cell (j := 0) (by omega)
  have c1 := AV1.cell (j := 1) (by omega)
  have c2 := AV1.cell (j := 2) (by omega)
  have c3 := AV1.cell (j := 3) (by omega)
  clear k1 hb1 AV BB
  go_wp2
  have AX := (Arr4.mk4 w1 24 v).alloc (.cells #[.int .u64 0, .int .u64 0, .int .u64 0, .int .u64 0] 24)
  have AS := Arr4.mk0 (w1.alloc (.cells #[.int .u64 (v 0), .int .u64 (v 1), .int .u64 (v 2), .int .u64 (v 3)] 24)) 24
  have AV2 := (AV1.alloc (.cells #[.int .u64 (v 0), .int .u64 (v 1), .int .u64 (v 2), .int .u64 (v 3)] 24)).alloc (.cells #[.int .u64 0, .int .u64 0, .int .u64 0, .int .u64 0] 24)
  have hlt := AV1.lt
  have B2 := (B1.alloc B1.size (.cells #[.int .u64 (v 0), .int .u64 (v 1), .int .u64 (v 2), .int .u64 (v 3)] 24)).alloc (by have := B1.size; simp; omega) (.cells #[.int .u64 0, .int .u64 0, .int .u64 0, .int .u64 0] 24)
  rw [World.size_alloc] at AS
  obtain ⟨W1, hW1⟩ : ∃ W1, (w1.alloc (.cells #[.int .u64 (v 0), .int .u64 (v 1), .int .u64 (v 2), .int .u64 (v 3)] 24)).alloc (.cells #[.int .u64 0, .int .u64 0, .int .u64 0, .int .u64 0] 24) = W1 := ⟨_, rfl⟩
  rw [hW1] at AX AS AV2 B2 ⊢
  have hne : w.heap.size ≠ w1.heap.size := by omega
  have hbx : w.heap.size ≤ w1.heap.size := B1.size
  clear hW1 c0 c1 c2 c3 AV1 B1 hlt
  generalize w1.heap.size = bX at *
  go_loopw [6] (fun i wr => ∃ (z : Int) (s : Nat), i = .int .i64 z ∧ s ≤ 4 ∧ z = 3 - (s : Int) ∧ Arr4 wr w.heap.size 24 v ∧ Arr4 wr bX 24 (X (64 * s)) ∧ Arr4 wr (bX + 1) 24 (S s 0) ∧ Below w.heap.size w wr)
    (fun i _ => (intOf i + 1).toNat)
  case atStart =>
    refine ⟨3, 0, rfl, by omega, by omega, AV2, ?_, ?_, B2⟩
    · rw [HX0.out]; exact AX
    · rw [HS0.out]; exact AS
  case round =>
    obtain ⟨z, s, rfl, hs4, hz, av, ax, as_, hB⟩ := hrel
    clear AX AS AV2 B2
    by_cases hs : s < 4
    · obtain ⟨q, hq⟩ : ∃ q : Nat, z = q := ⟨3 - s, by omega⟩
      subst hq
      have hqs : q + s = 3 := by omega
      have hq0 : (0 : Int) ≤ (q : Int) := by omega
      have hq4 : (q : Int) < 4 := by omega
      have HQ := Lib.hid hqs
      have HS4 := Lib.hid hs
      clear hz hs4 hqs hs
      obtain ⟨wo, rfl⟩ : ∃ wo : World, wo = wr := ⟨_, rfl⟩
      go_wp2
      go_loopw [7] (fun i wr => ∃ k : Nat, k ≤ 64 ∧ i = .int .i64 (k : Int) ∧ Arr4 wr w.heap.size 24 v ∧ Arr4 wr bX 24 (X (64 * s + k)) ∧ Arr4 wr (bX + 1) 24 (S s k) ∧ Below w.heap.size w wr)
        (fun i _ => 64 - (intOf i).toNat)
      case atStart => exact ⟨0, by omega, rfl, av, ax, as_, hB⟩
      case round =>
        obtain ⟨k, hk, rfl, av, ax, as_, hB⟩ := hrel
        by_cases hlt : k < 64
        · have hkI : (k : Int) < 64 := by omega
          have hk0 : (0 : Int) ≤ (k : Int) := by omega
          have hx := HX.out (64 * s + k) (by have := HS4.out; omega)
          have hs := HS.out s k HS4.out hlt
          have HK := Lib.hid hlt
          clear hk hlt
          have x0 := ax.cell (j := 0) (by omega)
          have x1 := ax.cell (j := 1) (by omega)
          have x2 := ax.cell (j := 2) (by omega)
          have x3 := ax.cell (j := 3) (by omega)
          go_wp2_with fail
          clear x0 x1 x2 x3
          refine (hx _).mono ?_
          rintro e w2 ⟨rfl, hb2⟩
          have av := av.later hb2
          have ax := ax.later hb2
          have as_ := as_.later hb2
          have hB := hB.trans (hb2.mono hB.size)
          clear hb2 hx
          have f0 := ax.frozen 0
          have f1 := ax.frozen 1
          have f2 := ax.frozen 2
          have f3 := ax.frozen 3
          have x0 := ax.cell (j := 0) (by omega)
          have x1 := ax.cell (j := 1) (by omega)
          have x2 := ax.cell (j := 2) (by omega)
          have x3 := ax.cell (j := 3) (by omega)
          have ax' := ax.store (X (64 * s + k + 1))
          have av' := av.other4 hne (.int .u64 (X (64 * s + k + 1) 0)) (.int .u64 (X (64 * s + k + 1) 1)) (.int .u64 (X (64 * s + k + 1) 2)) (.int .u64 (X (64 * s + k + 1) 3))
          have as' := as_.other4 (show bX + 1 ≠ bX by omega) (.int .u64 (X (64 * s + k + 1) 0)) (.int .u64 (X (64 * s + k + 1) 1)) (.int .u64 (X (64 * s + k + 1) 2)) (.int .u64 (X (64 * s + k + 1) 3))
          have hB' := Below.put4 hB hbx (.int .u64 (X (64 * s + k + 1) 0)) (.int .u64 (X (64 * s + k + 1) 1)) (.int .u64 (X (64 * s + k + 1) 2)) (.int .u64 (X (64 * s + k + 1) 3))
          have y0 := as'.cell (j := 0) (by omega)
          have y1 := as'.cell (j := 1) (by omega)
          have y2 := as'.cell (j := 2) (by omega)
          have y3 := as'.cell (j := 3) (by omega)
          replace ax' := Lib.hid ax'
          replace av' := Lib.hid av'
          replace as' := Lib.hid as'
          replace hB' := Lib.hid hB'
          clear ax av as_ hB
          go_wp2_with fail
          refine (hs _).mono ?_
          rintro e w3 ⟨rfl, hb3⟩
          have av := av'.out.later hb3
          have ax := ax'.out.later hb3
          have as_ := as'.out.later hb3
          have hB := hB'.out.trans (hb3.mono hB'.out.size)
          clear hb3 hs x0 x1 x2 x3 y0 y1 y2 y3 f0 f1 f2 f3 ax' av' as' hB'
          have f0 := as_.frozen 0
          have f1 := as_.frozen 1
          have f2 := as_.frozen 2
          have f3 := as_.frozen 3
          have y0 := as_.cell (j := 0) (by omega)
          have y1 := as_.cell (j := 1) (by omega)
          have y2 := as_.cell (j := 2) (by omega)
          have y3 := as_.cell (j := 3) (by omega)
          have AX := Lib.hid (ax.other4 (show bX ≠ bX + 1 by omega) (.int .u64 (S s (k + 1) 0)) (.int .u64 (S s (k + 1) 1)) (.int .u64 (S s (k + 1) 2)) (.int .u64 (S s (k + 1) 3)))
          have AV := Lib.hid (av.other4 (show w.heap.size ≠ bX + 1 by omega) (.int .u64 (S s (k + 1) 0)) (.int .u64 (S s (k + 1) 1)) (.int .u64 (S s (k + 1) 2)) (.int .u64 (S s (k + 1) 3)))
          have AS := Lib.hid (as_.store (S s (k + 1)))
          have HB := Lib.hid (Below.put4 hB (show w.heap.size ≤ bX + 1 by omega) (.int .u64 (S s (k + 1) 0)) (.int .u64 (S s (k + 1) 1)) (.int .u64 (S s (k + 1) 2)) (.int .u64 (S s (k + 1) 3)))
          clear ax av as_ hB
          go_wp2
          go_roundw
          case rel => exact ⟨k + 1, HK.out, by simp, AV.out, AX.out, AS.out, HB.out⟩
          case measure => have := HK.out; simp [intOf]; omega
        · obtain rfl : k = 64 := by omega
          have hp := HP.out s q HQ.out
          have hmx : Tryd.prog.follows .mixedOrders = true := by kernel_rfl
          have HB := Lib.hid hB
          have AV := Lib.hid av
          have AX := Lib.hid ax
          have AS := Lib.hid as_
          have e0 : ∀ x : Ext wr, x.w.cell? ⟨bX + 1, 0, none⟩ = some (.int .u64 (S s 64 0)) := fun x => (AS.out.later x.below).cell (by omega)
          have e1 : ∀ x : Ext wr, x.w.cell? ⟨bX + 1, 1, none⟩ = some (.int .u64 (S s 64 1)) := fun x => (AS.out.later x.below).cell (by omega)
          have e2 : ∀ x : Ext wr, x.w.cell? ⟨bX + 1, 2, none⟩ = some (.int .u64 (S s 64 2)) := fun x => (AS.out.later x.below).cell (by omega)
          have e3 : ∀ x : Ext wr, x.w.cell? ⟨bX + 1, 3, none⟩ = some (.int .u64 (S s 64 3)) := fun x => (AS.out.later x.below).cell (by omega)
          have g0 : ∀ x : Ext wr, x.w.frozen? ⟨bX + 1, 0, none⟩ = false := fun x => (AS.out.later x.below).frozen 0
          have g1 : ∀ x : Ext wr, x.w.frozen? ⟨bX + 1, 1, none⟩ = false := fun x => (AS.out.later x.below).frozen 1
          have g2 : ∀ x : Ext wr, x.w.frozen? ⟨bX + 1, 2, none⟩ = false := fun x => (AS.out.later x.below).frozen 2
          have g3 : ∀ x : Ext wr, x.w.frozen? ⟨bX + 1, 3, none⟩ = false := fun x => (AS.out.later x.below).frozen 3
          have ev : ∀ x : Ext wr, x.w.cell? ⟨w.heap.size, q, none⟩ = some (.int .u64 (v q)) := fun x => (AV.out.later x.below).cell (by omega)
          have hq3 : q < 4 := by omega
          clear hk hlt av ax as_ hB hq3
          go_wp2
          refine wp_region_mix (C := Grows wr) [some true, some true, some true, some true, some true, some true, none] hmx (by kernel_rfl) (by kernel_rfl) (grows_refl wr) ?_
          simp only [headOf, tailOf]
          repeat (go_big_quiet_step (exact Ret.at hp _))
          refine wpQuiet_nil ?_
          rintro _ ⟨x, rfl⟩
          have AV3 := Lib.hid ((AV.out.later x.below).other4 (show w.heap.size ≠ bX + 1 by omega) (.int .u64 (S (s + 1) 0 0)) (.int .u64 (S (s + 1) 0 1)) (.int .u64 (S (s + 1) 0 2)) (.int .u64 (S (s + 1) 0 3)))
          have AX3 := Lib.hid ((AX.out.later x.below).other4 (show bX ≠ bX + 1 by omega) (.int .u64 (S (s + 1) 0 0)) (.int .u64 (S (s + 1) 0 1)) (.int .u64 (S (s + 1) 0 2)) (.int .u64 (S (s + 1) 0 3)))
          have AS3 := Lib.hid ((AS.out.later x.below).store (S (s + 1) 0))
          have HB3 := Lib.hid (Below.put4 (HB.out.trans (x.below.mono HB.out.size)) (show w.heap.size ≤ bX + 1 by omega) (.int .u64 (S (s + 1) 0 0)) (.int .u64 (S (s + 1) 0 1)) (.int .u64 (S (s + 1) 0 2)) (.int .u64 (S (s + 1) 0 3)))
          go_wp2
          rw [calmPost_normal]
          go_wp2
          go_roundw
          case rel => exact ⟨(q : Int) - 1, s + 1, by simp, HS4.out, by have := HQ.out; omega, AV3.out, AX3.out, AS3.out, HB3.out⟩
          case measure => first | (simp [intOf]; done) | (simp [intOf]; omega)
    · obtain rfl : s = 4 := by omega
      obtain rfl : z = -1 := by omega
      rw [HXE.out] at ax
      rw [HSE.out] at as_
      have x0 := ax.cell (j := 0) (by omega)
      have x1 := ax.cell (j := 1) (by omega)
      have x2 := ax.cell (j := 2) (by omega)
      have x3 := ax.cell (j := 3) (by omega)
      have y0 := as_.cell (j := 0) (by omega)
      have y1 := as_.cell (j := 1) (by omega)
      have y2 := as_.cell (j := 2) (by omega)
      have y3 := as_.cell (j := 3) (by omega)
      have z0 := av.cell (j := 0) (by omega)
      have z1 := av.cell (j := 1) (by omega)
      have z2 := av.cell (j := 2) (by omega)
      have z3 := av.cell (j := 3) (by omega)
      have HB := Lib.hid hB
      clear hs4 hz hs av ax as_ hB
      go_wp2
      go_ret
      exact ⟨rfl, HB.out⟩
end Go.Proofs.YtgejdkiehcpinaaDoor
