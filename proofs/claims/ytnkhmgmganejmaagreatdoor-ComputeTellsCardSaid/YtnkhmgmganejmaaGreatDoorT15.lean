/- Part. -/
import Derived.Test.YtnkhmgmganejmaaGreatDoorT10
import Derived.Deep.AppendSrc
import Derived.Laws.AppendOwn
import Derived.Test.YtnkhmgmganejmaaGreatDoorT01
import Derived.Lib.BytesEntry
import Derived.Lib.Bytealg
import Derived.Laws.StructEq
import Derived.Laws.Cover2
import Derived.WalkKit
import Derived.Deep.Quiet
import Derived.BigQuiet
import Derived.Deep.MidRow
import Derived.Deep.WholeRow
import Derived.Test.YtnkhmgmganejmaaGreatDoorT07
import Derived.Lib.SliceRun
import Derived.Lib.AppendZerosOnto
import Derived.Deep.Upon
import Derived.Test.YtnkhmgmganejmaaGreatDoorT14
set_option maxRecDepth 100000
set_option maxHeartbeats 16000000
namespace Go.Proofs.YtnkhmgmganejmaaGreatDoor
section
open Go Go.RowKit Go.Shelf
attribute [local go_sem] Oper.semAt_some Grows wide_fn
theorem fromDigits_any (d : Nat → Int) (hd : ∀ j, 0 ≤ d j ∧ d j < 256) (n g cap : Nat) (hn : n ≤ 140737488355328) (hz : ∀ j, n ≤ j → d j = 0) (w : World) (hx : IntsAt w g n d) :
  Calls Tryz.prog 74 #[.slice (some ⟨g, 0, none⟩) n cap] w fun e w' => e = .returned (wv (valI d 32).toNat) ∧ Below w.heap.size w w' := by
 rw [wv_of (fd_parts d hd)]
 have hgl := hx.lt
 have A1 := (Arr4.mk0' w 24).alloc (.cells #[.int .u64 0, .int .u64 0, .int .u64 0, .int .u64 0] 24)
 have A2 := Arr4.mk0' (w.alloc (.cells #[.int .u64 0, .int .u64 0, .int .u64 0, .int .u64 0] 24)) 24
 have X0 := (hx.alloc (.cells #[.int .u64 0, .int .u64 0, .int .u64 0, .int .u64 0] 24)).alloc (.cells #[.int .u64 0, .int .u64 0, .int .u64 0, .int .u64 0] 24)
 have B0 := ((Below.refl _ w).alloc (Nat.le_refl _) (.cells #[.int .u64 0, .int .u64 0, .int .u64 0, .int .u64 0] 24)).alloc (by simp) (.cells #[.int .u64 0, .int .u64 0, .int .u64 0, .int .u64 0] 24)
 have s0 : w.heap.size + 2 ≤ ((w.alloc (.cells #[.int .u64 0, .int .u64 0, .int .u64 0, .int .u64 0] 24)).alloc (.cells #[.int .u64 0, .int .u64 0, .int .u64 0, .int .u64 0] 24)).heap.size := by simp
 rw [World.size_alloc] at A2
 have HZ := Lib.hid hz
 have HD := Lib.hid hd
 clear hx hz hd
 obtain ⟨m, hm⟩ : ∃ m, m = min n 32 := ⟨_, rfl⟩
 have hm32 : m ≤ 32 := by omega
 have hmn : m ≤ n := by omega
 have HM := Lib.hid hm
 go_enter Tryz.func74, Tryz.ntmps74
 by_cases hle : n ≤ 32
 case pos =>
  obtain rfl : m = n := by omega
  have z1 : (m : Int) ≤ 32 := by omega
  have z0 : (0 : Int) ≤ (m : Int) := by omega
  clear hle hm32 hmn hn hm
  go_wp2
  obtain ⟨W0, hW0⟩ : ∃ W0, (w.alloc (.cells #[.int .u64 0, .int .u64 0, .int .u64 0, .int .u64 0] 24)).alloc (.cells #[.int .u64 0, .int .u64 0, .int .u64 0, .int .u64 0] 24) = W0 := ⟨_, rfl⟩
  rw [hW0] at A1 A2 X0 B0 s0 ⊢
  clear hW0
  go_loopw [4] (fun i wr => ∃ (z : Int) (k : Nat), i = .int .i64 z ∧ k ≤ m ∧ z = (k : Int) - 1 ∧ Arr4 wr w.heap.size 24 (fun _ => 0) ∧ Arr4 wr (w.heap.size + 1) 24 (fdAt d k) ∧ IntsAt wr g m d ∧ Below w.heap.size w wr) (fun i _ => (intOf i + 1).toNat)
  case atStart =>
   refine ⟨_, m, rfl, by omega, by omega, A1, ?_, X0, B0⟩
   have hs := fdAt_start d m HZ.out
   rw [← HM.out] at hs
   exact A2.same4 (hs 0 (by omega)).symm (hs 1 (by omega)).symm (hs 2 (by omega)).symm (hs 3 (by omega)).symm
  case round =>
   obtain ⟨z, k, rfl, hk, hz, a1, a2, xx, hB⟩ := hrel
   clear A1 A2 X0 B0 s0
   by_cases hk0 : 0 < k
   ·obtain ⟨i, rfl⟩ : ∃ i, k = i + 1 := ⟨k - 1, by omega⟩
    obtain rfl : z = (i : Int) := by omega
    have hiM : i < m := by omega
    have hi32 : i < 32 := by have := HM.out; omega
    have hiN : i < m := by have := HM.out; omega
    obtain ⟨p, hp⟩ : ∃ p, p = i / 8 := ⟨_, rfl⟩
    have hp4 : p < 4 := by omega
    have hq : ((i : Int).tdiv 8) = (p : Int) := by rw [Int.tdiv_eq_ediv_of_nonneg (by omega)]; omega
    have hst := Lib.hid (fdAt_step d i p hp)
    obtain ⟨hr0, hr1⟩ := fdAt_room d HD.out i p hp
    obtain ⟨hd0, hd1⟩ := HD.out i
    have cp := a2.cell hp4
    have fp := a2.frozen p
    have cd := xx.cell hiN
    have hi0 : (0 : Int) ≤ (i : Int) := by omega
    have hiI : (i : Int) < (m : Int) := by omega
    have hi31 : (i : Int) < 32 := by omega
    have hp0 : (0 : Int) ≤ (p : Int) := by omega
    have hpI : (p : Int) < 4 := by omega
    have HA1 := Lib.hid a1
    have HA2 := Lib.hid a2
    have HX := Lib.hid xx
    have HB := Lib.hid hB
    have HI := Lib.hid hiM
    have hmx : Tryz.prog.follows .mixedOrders = true := by kernel_rfl
    have hgw : g ≠ w.heap.size + 1 := by omega
    clear hk hz hk0 a1 a2 xx hB hiM hi32 hiN hp hp4
    generalize fdAt d (i + 1) = ff at *
    generalize d i = di at *
    have ecp : ∀ x : Ext wr, x.w.cell? ⟨w.heap.size + 1, p, none⟩ = some (.int .u64 (ff p)) := fun x => (x.cell (p := ⟨_, p, none⟩) HA2.out.lt).trans cp
    have efp : ∀ x : Ext wr, x.w.frozen? ⟨w.heap.size + 1, p, none⟩ = false := fun x => (x.frozen (p := ⟨_, p, none⟩) HA2.out.lt).trans fp
    have ecd : ∀ x : Ext wr, x.w.cell? ⟨g, i, none⟩ = some (.int .i64 di) := fun x => (x.cell (p := ⟨g, i, none⟩) HX.out.lt).trans cd
    clear cp fp cd
    go_wp2
    refine wp_region_mix (C := Grows wr) [some true, some true, some true, some true, some true, some true, some true, some true, some true, some true, some true, some true, some true, some true, none] hmx (by kernel_rfl) (by kernel_rfl) (grows_refl wr) ?_
    simp only [headOf, tailOf]
    repeat (go_big_quiet_step (fail))
    refine wpQuiet_nil ?_
    rintro _ ⟨x, rfl⟩
    have N1 := Lib.hid ((HA1.out.later' x.below).other (p := ⟨w.heap.size + 1, p, none⟩) (by simp) (.int .u64 (ff p * 256 + di)))
    have N2 := Lib.hid ((HA2.out.later' x.below).set (k := p) (by omega) (ff p * 256 + di))
    have N3 := Lib.hid ((HX.out.later x.below).other (p := ⟨w.heap.size + 1, p, none⟩) hgw (.int .u64 (ff p * 256 + di)))
    have N4 := Lib.hid ((HB.out.trans (x.below.mono HB.out.size)).setCell (p := ⟨w.heap.size + 1, p, none⟩) (by simp) (.int .u64 (ff p * 256 + di)))
    go_wp2
    rw [calmPost_normal]
    go_wp2
    go_roundw
    case rel => exact ⟨(i : Int) - 1, i, by simp, by have := HI.out; omega, rfl, N1.out, by rw [hst.out]; exact N2.out, N3.out, N4.out⟩
    case measure => first | (simp [intOf]; done) | (simp [intOf]; omega)
   ·obtain rfl : k = 0 := by omega
    obtain rfl : z = -1 := by omega
    have HA1 := Lib.hid a1
    have HB := Lib.hid hB
    have c0 := a2.cell (j := 0) (by omega)
    have c1 := a2.cell (j := 1) (by omega)
    have c2 := a2.cell (j := 2) (by omega)
    have c3 := a2.cell (j := 3) (by omega)
    have f0 := a1.frozen 0
    have f1 := a1.frozen 1
    have f2 := a1.frozen 2
    have f3 := a1.frozen 3
    have d0 := a1.cell (j := 0) (by omega)
    have d1 := a1.cell (j := 1) (by omega)
    have d2 := a1.cell (j := 2) (by omega)
    have d3 := a1.cell (j := 3) (by omega)
    clear hk hz hk0 a1 a2 xx hB
    go_wp2
    refine bodyPost_ret (results_word rfl rfl (HA1.out.store _)) rfl ⟨rfl, ?_⟩
    exact (((HB.out.setCell (p := ⟨w.heap.size, 0, none⟩) (by simp) _).setCell (p := ⟨w.heap.size, 1, none⟩) (by simp) _).setCell (p := ⟨w.heap.size, 2, none⟩) (by simp) _).setCell (p := ⟨w.heap.size, 3, none⟩) (by simp) _
 case neg =>
  have z1 : (32 : Int) < (n : Int) := by omega
  have z2 : (32 : Int) ≤ (n : Int) := by omega
  have z3 : ¬ (n : Int) ≤ 32 := by omega
  have z4 : ¬ (n : Int) < 32 := by omega
  have z5 : (n : Int) ≤ 140737488355328 := by omega
  obtain rfl : m = 32 := by omega
  clear hle hm32 hmn hn hm
  go_wp2
  obtain ⟨W0, hW0⟩ : ∃ W0, (w.alloc (.cells #[.int .u64 0, .int .u64 0, .int .u64 0, .int .u64 0] 24)).alloc (.cells #[.int .u64 0, .int .u64 0, .int .u64 0, .int .u64 0] 24) = W0 := ⟨_, rfl⟩
  rw [hW0] at A1 A2 X0 B0 s0 ⊢
  clear hW0
  go_loopw [4] (fun i wr => ∃ (z : Int) (k : Nat), i = .int .i64 z ∧ k ≤ 32 ∧ z = (k : Int) - 1 ∧ Arr4 wr w.heap.size 24 (fun _ => 0) ∧ Arr4 wr (w.heap.size + 1) 24 (fdAt d k) ∧ IntsAt wr g n d ∧ Below w.heap.size w wr) (fun i _ => (intOf i + 1).toNat)
  case atStart =>
   refine ⟨_, 32, rfl, by omega, by omega, A1, ?_, X0, B0⟩
   have hs := fdAt_start d n HZ.out
   rw [← HM.out] at hs
   exact A2.same4 (hs 0 (by omega)).symm (hs 1 (by omega)).symm (hs 2 (by omega)).symm (hs 3 (by omega)).symm
  case round =>
   obtain ⟨z, k, rfl, hk, hz, a1, a2, xx, hB⟩ := hrel
   clear A1 A2 X0 B0 s0
   by_cases hk0 : 0 < k
   ·obtain ⟨i, rfl⟩ : ∃ i, k = i + 1 := ⟨k - 1, by omega⟩
    obtain rfl : z = (i : Int) := by omega
    have hiM : i < 32 := by omega
    have hi32 : i < 32 := by have := HM.out; omega
    have hiN : i < n := by have := HM.out; omega
    obtain ⟨p, hp⟩ : ∃ p, p = i / 8 := ⟨_, rfl⟩
    have hp4 : p < 4 := by omega
    have hq : ((i : Int).tdiv 8) = (p : Int) := by rw [Int.tdiv_eq_ediv_of_nonneg (by omega)]; omega
    have hst := Lib.hid (fdAt_step d i p hp)
    obtain ⟨hr0, hr1⟩ := fdAt_room d HD.out i p hp
    obtain ⟨hd0, hd1⟩ := HD.out i
    have cp := a2.cell hp4
    have fp := a2.frozen p
    have cd := xx.cell hiN
    have hi0 : (0 : Int) ≤ (i : Int) := by omega
    have hiI : (i : Int) < (n : Int) := by omega
    have hi31 : (i : Int) < 32 := by omega
    have hp0 : (0 : Int) ≤ (p : Int) := by omega
    have hpI : (p : Int) < 4 := by omega
    have HA1 := Lib.hid a1
    have HA2 := Lib.hid a2
    have HX := Lib.hid xx
    have HB := Lib.hid hB
    have HI := Lib.hid hiM
    have hmx : Tryz.prog.follows .mixedOrders = true := by kernel_rfl
    have hgw : g ≠ w.heap.size + 1 := by omega
    clear hk hz hk0 a1 a2 xx hB hiM hi32 hiN hp hp4
    generalize fdAt d (i + 1) = ff at *
    generalize d i = di at *
    have ecp : ∀ x : Ext wr, x.w.cell? ⟨w.heap.size + 1, p, none⟩ = some (.int .u64 (ff p)) := fun x => (x.cell (p := ⟨_, p, none⟩) HA2.out.lt).trans cp
    have efp : ∀ x : Ext wr, x.w.frozen? ⟨w.heap.size + 1, p, none⟩ = false := fun x => (x.frozen (p := ⟨_, p, none⟩) HA2.out.lt).trans fp
    have ecd : ∀ x : Ext wr, x.w.cell? ⟨g, i, none⟩ = some (.int .i64 di) := fun x => (x.cell (p := ⟨g, i, none⟩) HX.out.lt).trans cd
    clear cp fp cd
    go_wp2
    refine wp_region_mix (C := Grows wr) [some true, some true, some true, some true, some true, some true, some true, some true, some true, some true, some true, some true, some true, some true, none] hmx (by kernel_rfl) (by kernel_rfl) (grows_refl wr) ?_
    simp only [headOf, tailOf]
    repeat (go_big_quiet_step (fail))
    refine wpQuiet_nil ?_
    rintro _ ⟨x, rfl⟩
    have N1 := Lib.hid ((HA1.out.later' x.below).other (p := ⟨w.heap.size + 1, p, none⟩) (by simp) (.int .u64 (ff p * 256 + di)))
    have N2 := Lib.hid ((HA2.out.later' x.below).set (k := p) (by omega) (ff p * 256 + di))
    have N3 := Lib.hid ((HX.out.later x.below).other (p := ⟨w.heap.size + 1, p, none⟩) hgw (.int .u64 (ff p * 256 + di)))
    have N4 := Lib.hid ((HB.out.trans (x.below.mono HB.out.size)).setCell (p := ⟨w.heap.size + 1, p, none⟩) (by simp) (.int .u64 (ff p * 256 + di)))
    go_wp2
    rw [calmPost_normal]
    go_wp2
    go_roundw
    case rel => exact ⟨(i : Int) - 1, i, by simp, by have := HI.out; omega, rfl, N1.out, by rw [hst.out]; exact N2.out, N3.out, N4.out⟩
    case measure => first | (simp [intOf]; done) | (simp [intOf]; omega)
   ·obtain rfl : k = 0 := by omega
    obtain rfl : z = -1 := by omega
    have HA1 := Lib.hid a1
    have HB := Lib.hid hB
    have c0 := a2.cell (j := 0) (by omega)
    have c1 := a2.cell (j := 1) (by omega)
    have c2 := a2.cell (j := 2) (by omega)
    have c3 := a2.cell (j := 3) (by omega)
    have f0 := a1.frozen 0
    have f1 := a1.frozen 1
    have f2 := a1.frozen 2
    have f3 := a1.frozen 3
    have d0 := a1.cell (j := 0) (by omega)
    have d1 := a1.cell (j := 1) (by omega)
    have d2 := a1.cell (j := 2) (by omega)
    have d3 := a1.cell (j := 3) (by omega)
    clear hk hz hk0 a1 a2 xx hB
    go_wp2
    refine bodyPost_ret (results_word rfl rfl (HA1.out.store _)) rfl ⟨rfl, ?_⟩
    exact (((HB.out.setCell (p := ⟨w.heap.size, 0, none⟩) (by simp) _).setCell (p := ⟨w.heap.size, 1, none⟩) (by simp) _).setCell (p := ⟨w.heap.size, 2, none⟩) (by simp) _).setCell (p := ⟨w.heap.size, 3, none⟩) (by simp) _
def carV (d : Nat → Int) (n : Nat) : List Value := (List.range n).map fun j => Value.int .i64 (rD d j)
theorem carV_succ (d : Nat → Int) (n : Nat) : carV d (n + 1) = carV d n ++ [.int .i64 (rD d n)] := by simp [carV, List.range_succ]
theorem carried_any (d : Nat → Int) (hd : ∀ j, -4194304 ≤ d j ∧ d j ≤ 4194304) (g cap : Nat) (w : World) (hx : IntsAt w g 32 d) :
  Calls Tryz.prog 75 #[.slice (some ⟨g, 0, none⟩) 32 cap] w fun e w' => ∃ g' cap', e = .returned (.slice (some ⟨g', 0, none⟩) 32 cap') ∧ w.heap.size ≤ g' ∧ IntsAt w' g' 32 (rD d) ∧ Below w.heap.size w w' := by
 have hgl := hx.lt
 have HD := Lib.hid hd
 have R0 := World.ownsRow_nil w w.heap.size 3 1
 have B0 := Below.refl w.heap.size w
 clear hd
 go_enter Tryz.func75, Tryz.ntmps75
 go_wp2
 go_loopw [3, 4, 5] (fun t c i wr => ∃ k : Nat, k ≤ 32 ∧ i = .int .i64 (k : Int) ∧ c = .int .i64 (cyD d k) ∧ IntsAt wr g 32 d ∧ wr.ownsRow w.heap.size 3 1 t k (carV d k) ∧ Below w.heap.size w wr) (fun _ _ i _ => 32 - (intOf i).toNat)
 case atStart => exact ⟨0, by omega, rfl, rfl, hx, R0, B0⟩
 case round =>
  obtain ⟨k, hk, rfl, rfl, xx, hown, hB⟩ := hrel
  clear hx R0 B0
  by_cases hlt : k < 32
  ·have hkI : (k : Int) < 32 := by omega
   have hk0 : (0 : Int) ≤ (k : Int) := by omega
   have cd := xx.cell hlt
   obtain ⟨d0, d1⟩ := HD.out k
   obtain ⟨c0, c1⟩ := cyD_bound d HD.out k
   have hs : cyD d (k + 1) = (d k + cyD d k) / 256 := rfl
   have hr : rD d k = (d k + cyD d k) % 256 := rfl
   have HS := Lib.hid hs
   have HV := Lib.hid (carV_succ d k)
   have HR := Lib.hid hr
   have HK := Lib.hid hlt
   have HX := Lib.hid xx
   have HO := Lib.hid hown
   have HB := Lib.hid hB
   have hsz := hB.size
   obtain ⟨i0, hi, hz0, hz1, hz2⟩ := info_parts infoI
   clear hk hlt xx hown hB hs
   generalize d k = y at *
   generalize cyD d k = c at *
   generalize hrr : rD d k = r at *
   have r0 : 0 ≤ r := by omega
   have r1 : r < 256 := by omega
   have e3 : (y + c - r).tdiv 256 = (y + c) / 256 := by
    rw [Int.tdiv_eq_ediv_of_dvd (by omega)]
    omega
   by_cases hneg : (y + c).tmod 256 < 0
   ·have e1 : (y + c).tmod 256 + 256 = r := by
     have h1 := Int.tmod_def (y + c) 256
     have h2 := Int.mul_tdiv_add_tmod (y + c) 256
     have h3 := Int.lt_tmod_of_pos (y + c) (show (0 : Int) < 256 by decide)
     omega
    have e2 : -256 < (y + c).tmod 256 := Int.lt_tmod_of_pos _ (by decide)
    obtain ⟨t, ht⟩ : ∃ t, (y + c).tmod 256 = t := ⟨_, rfl⟩
    rw [ht] at e1 e2 hneg
    clear hr
    go_wp2_with (at_builtin; refine wpList_append_own _ rfl _ _ 93 rfl w.heap.size 3 i0 (.int .i64 0) 1 8 Tryz.underlying93 hi hz0 hz1 hz2 rfl (by decide) _ _ _ rfl (HO.out.alloc _) ⟨wr.heap.size, 0, none⟩ 1 1 [.int .i64 r] rfl rfl (cell_one _ _ _) (by simp [Value.oneCell']) (by unfold maxLen; omega) (by omega) (by simp; omega) ?_; intro v' w3 hown' hgrow hnil)
    clear hi hz0 hz1 hz2
    go_wp2
    go_roundw
    case rel =>
     refine ⟨k + 1, HK.out, by simp, by rw [HS.out], ?_, ?_, ?_⟩
     ·exact (HX.out.alloc _).kept hgrow (fun e => by have := (HO.out.alloc (.cells #[.int .i64 r] 3)).lt _ e.symm; omega)
     ·rw [HV.out]; exact hown'
     ·exact (HB.out.alloc (by omega) _).grown hgrow (by simp; omega) (fun j e => (HO.out.alloc (.cells #[.int .i64 r] 3)).lt j e |>.1)
    case measure => have := HK.out; simp [intOf]; omega
   ·have hnn : 0 ≤ (y + c).tmod 256 := by omega
    have e1 : (y + c).tmod 256 = r := by
     have h2 := Int.mul_tdiv_add_tmod (y + c) 256
     have h3 := Int.tmod_lt_of_pos (y + c) (show (0 : Int) < 256 by decide)
     omega
    have hneg' : ¬ r < 0 := by omega
    clear hr hneg hnn
    go_wp2_with (at_builtin; refine wpList_append_own _ rfl _ _ 93 rfl w.heap.size 3 i0 (.int .i64 0) 1 8 Tryz.underlying93 hi hz0 hz1 hz2 rfl (by decide) _ _ _ rfl (HO.out.alloc _) ⟨wr.heap.size, 0, none⟩ 1 1 [.int .i64 r] rfl rfl (cell_one _ _ _) (by simp [Value.oneCell']) (by unfold maxLen; omega) (by omega) (by simp; omega) ?_; intro v' w3 hown' hgrow hnil)
    clear hi hz0 hz1 hz2
    go_wp2
    go_roundw
    case rel =>
     refine ⟨k + 1, HK.out, by simp, by rw [HS.out], ?_, ?_, ?_⟩
     ·exact (HX.out.alloc _).kept hgrow (fun e => by have := (HO.out.alloc (.cells #[.int .i64 r] 3)).lt _ e.symm; omega)
     ·rw [HV.out]; exact hown'
     ·exact (HB.out.alloc (by omega) _).grown hgrow (by simp; omega) (fun j e => (HO.out.alloc (.cells #[.int .i64 r] 3)).lt j e |>.1)
    case measure => have := HK.out; simp [intOf]; omega
  ·obtain rfl : k = 32 := by omega
   obtain ⟨g', cap', rfl⟩ := ownsRow_succ (k := 31) hown
   have hx := IntsAt.of_row (d := rD d) hown (fun j hj => by simp [carV, hj])
   have HX := Lib.hid hx
   have HB := Lib.hid hB
   clear hk hlt hown xx hB hx
   go_wp2
   go_ret
   exact ⟨g', cap', rfl, HX.out.1, HX.out.2, HB.out⟩
theorem refOf_ret (n : Int) (h : I64 n) : Ret Tryz.prog 10 #[.int .i64 n] (wv (ofN n)) := by
 intro w
 have hI := h
 unfold I64 at h
 by_cases hn : n < 0
 ·rw [wv_of (of_neg n hI hn)]
  have hw : IntKind.u64.wrap n = 18446744073709551616 + n := by rw [IntKind.wrap_u64]; omega
  have h1 : -9223372036854775808 ≤ n := h.1
  obtain ⟨x, hx⟩ : ∃ x, x = 18446744073709551616 + n := ⟨_, rfl⟩
  rw [← hx] at hw ⊢
  have hx0 : 0 ≤ x := by omega
  have hx1 : x < 18446744073709551616 := by omega
  clear h hI hx
  go_enter Tryz.func10, Tryz.ntmps10
  go_wp2
  have A1 := (Arr4.mk0' w 24).alloc (.cells #[.int .u64 x, .int .u64 0, .int .u64 0, .int .u64 0] 24)
  have A2 := Arr4.new (w.alloc (.cells #[.int .u64 0, .int .u64 0, .int .u64 0, .int .u64 0] 24)) 24 x 0 0 0
  have B0 := ((Below.refl _ w).alloc (Nat.le_refl _) (.cells #[.int .u64 0, .int .u64 0, .int .u64 0, .int .u64 0] 24)).alloc (by simp) (.cells #[.int .u64 x, .int .u64 0, .int .u64 0, .int .u64 0] 24)
  rw [World.size_alloc] at A2
  obtain ⟨W0, hW0⟩ : ∃ W0, (w.alloc (.cells #[.int .u64 0, .int .u64 0, .int .u64 0, .int .u64 0] 24)).alloc (.cells #[.int .u64 x, .int .u64 0, .int .u64 0, .int .u64 0] 24) = W0 := ⟨_, rfl⟩
  rw [hW0] at A1 A2 B0 ⊢
  clear hW0
  go_loopw [4] (fun i wr => ∃ k : Nat, 1 ≤ k ∧ k ≤ 4 ∧ i = .int .i64 (k : Int) ∧ Arr4 wr w.heap.size 24 (fun _ => 0) ∧ Arr4 wr (w.heap.size + 1) 24 (fun j => if j = 0 then x else if j < k then 18446744073709551615 else 0) ∧ Below w.heap.size w wr) (fun i _ => 4 - (intOf i).toNat)
  case atStart => exact ⟨1, by omega, by omega, rfl, A1, A2.same4 rfl rfl rfl rfl, B0⟩
  case round =>
   obtain ⟨k, hk1, hk, rfl, a1, a2, hB⟩ := hrel
   clear A1 A2 B0
   by_cases hlt : k < 4
   ·have hkI : (k : Int) < 4 := by omega
    have hk0 : (0 : Int) ≤ (k : Int) := by omega
    have fp := a2.frozen k
    have cp := a2.cell hlt
    have N1 := Lib.hid (a1.other (p := ⟨w.heap.size + 1, k, none⟩) (by simp) (.int .u64 18446744073709551615))
    have N2 := Lib.hid (a2.set hlt 18446744073709551615)
    have N3 := Lib.hid (hB.setCell (p := ⟨w.heap.size + 1, k, none⟩) (by simp) (.int .u64 18446744073709551615))
    have HK := Lib.hid (And.intro hk1 hlt)
    clear hk1 hk hlt a1 a2 hB
    go_wp2
    go_roundw
    case rel =>
     have hk := HK.out
     refine ⟨k + 1, by omega, by omega, by simp, N1.out, ?_, N3.out⟩
     have e : (fun j => if j = 0 then x else if j < k + 1 then (18446744073709551615 : Int) else 0) = (fun j => if j = k then 18446744073709551615 else if j = 0 then x else if j < k then 18446744073709551615 else 0) := by
      funext j
      by_cases e1 : j = k
      ·rw [if_pos e1, if_neg (by omega), if_pos (by omega)]
      ·rw [if_neg e1]
       by_cases e2 : j = 0
       ·rw [if_pos e2, if_pos e2]
       ·rw [if_neg e2, if_neg e2]
        by_cases e3 : j < k
        ·rw [if_pos e3, if_pos (by omega)]
        ·rw [if_neg e3, if_neg (by omega)]
     rw [e]
     exact N2.out
    case measure => have := HK.out; simp [intOf]; omega
   ·obtain rfl : k = 4 := by omega
    have c0 : wr.cell? ⟨w.heap.size + 1, 0, none⟩ = some (.int .u64 x) := a2.cell (j := 0) (by omega)
    have c1 : wr.cell? ⟨w.heap.size + 1, 1, none⟩ = some (.int .u64 18446744073709551615) := a2.cell (j := 1) (by omega)
    have c2 : wr.cell? ⟨w.heap.size + 1, 2, none⟩ = some (.int .u64 18446744073709551615) := a2.cell (j := 2) (by omega)
    have c3 : wr.cell? ⟨w.heap.size + 1, 3, none⟩ = some (.int .u64 18446744073709551615) := a2.cell (j := 3) (by omega)
    have f0 := a1.frozen 0
    have f1 := a1.frozen 1
    have f2 := a1.frozen 2
    have f3 := a1.frozen 3
    have d0 := a1.cell (j := 0) (by omega)
    have d1 := a1.cell (j := 1) (by omega)
    have d2 := a1.cell (j := 2) (by omega)
    have d3 := a1.cell (j := 3) (by omega)
    have HA1 := Lib.hid a1
    have HB := Lib.hid hB
    clear hk1 hk hlt a1 a2 hB
    go_wp2
    refine bodyPost_ret (results_word rfl rfl (HA1.out.store (fun j => if j = 0 then x else 18446744073709551615))) rfl ⟨rfl, ?_⟩
    exact (((HB.out.setCell (p := ⟨w.heap.size, 0, none⟩) (by simp) _).setCell (p := ⟨w.heap.size, 1, none⟩) (by simp) _).setCell (p := ⟨w.heap.size, 2, none⟩) (by simp) _).setCell (p := ⟨w.heap.size, 3, none⟩) (by simp) _
 ·rw [wv_of (of_pos n hI hn)]
  have hn0 : 0 ≤ n := by omega
  have hn1 : n ≤ 9223372036854775807 := h.2
  have hw : IntKind.u64.wrap n = n := by rw [IntKind.wrap_u64]; omega
  have hn2 : n < 18446744073709551616 := by omega
  clear h hI
  go_enter Tryz.func10, Tryz.ntmps10
  go_wp2
  refine bodyPost_ret (results_word rfl rfl ((Arr4.new w 24 n 0 0 0).alloc (.cells #[.int .u64 n, .int .u64 0, .int .u64 0, .int .u64 0] 24))) rfl ⟨rfl, ?_⟩
  exact ((Below.refl _ w).alloc (Nat.le_refl _) _).alloc (by simp) _
def cmR (a b : Nat) : Nat → Int
 | 0 => 0
 | k + 1 => cmpN a b k (cmR a b k)
theorem cmR_four (a b : Nat) (ha : W256 a) (hb : W256 b) : cmR a b 4 = wcmp a b := cmp_parts a b ha hb
theorem refCmp_ret (a b : Nat) (ha : W256 a) (hb : W256 b) : Ret Tryz.prog 49 #[wv a, wv b] (.int .i64 (wcmp a b)) := by
 intro w
 have HC := Lib.hid (cmR_four a b ha hb)
 have A1 := (Arr4.word w 24 a).alloc (.cells #[.int .u64 (lim b 0), .int .u64 (lim b 1), .int .u64 (lim b 2), .int .u64 (lim b 3)] 24)
 have A2 := Arr4.word (w.alloc (.cells #[.int .u64 (lim a 0), .int .u64 (lim a 1), .int .u64 (lim a 2), .int .u64 (lim a 3)] 24)) 24 b
 have B0 := ((Below.refl _ w).alloc (Nat.le_refl _) (.cells #[.int .u64 (lim a 0), .int .u64 (lim a 1), .int .u64 (lim a 2), .int .u64 (lim a 3)] 24)).alloc (by simp) (.cells #[.int .u64 (lim b 0), .int .u64 (lim b 1), .int .u64 (lim b 2), .int .u64 (lim b 3)] 24)
 rw [World.size_alloc] at A2
 unfold wv
 clear ha hb
 go_enter Tryz.func49, Tryz.ntmps49
 go_wp2
 obtain ⟨W0, hW0⟩ : ∃ W0, (w.alloc (.cells #[.int .u64 (lim a 0), .int .u64 (lim a 1), .int .u64 (lim a 2), .int .u64 (lim a 3)] 24)).alloc (.cells #[.int .u64 (lim b 0), .int .u64 (lim b 1), .int .u64 (lim b 2), .int .u64 (lim b 3)] 24) = W0 := ⟨_, rfl⟩
 rw [hW0] at A1 A2 B0 ⊢
 clear hW0
 go_loopw [5] (fun i wr => ∃ (z : Int) (k : Nat), i = .int .i64 z ∧ k ≤ 4 ∧ z = (k : Int) - 1 ∧ cmR a b k = wcmp a b ∧ Arr4 wr w.heap.size 24 (lim a) ∧ Arr4 wr (w.heap.size + 1) 24 (lim b) ∧ Below w.heap.size w wr) (fun i _ => (intOf i + 1).toNat)
 case atStart => exact ⟨3, 4, rfl, by omega, by omega, HC.out, A1, A2, B0⟩
 case round =>
  obtain ⟨z, k, rfl, hk, hz, hc, a1, a2, hB⟩ := hrel
  clear A1 A2 B0 HC
  by_cases hk0 : 0 < k
  ·obtain ⟨i, rfl⟩ : ∃ i, k = i + 1 := ⟨k - 1, by omega⟩
   obtain rfl : z = (i : Int) := by omega
   have hi4 : i < 4 := by omega
   have hi0 : (0 : Int) ≤ (i : Int) := by omega
   have hiI : (i : Int) < 4 := by omega
   have hst : cmpO (cmR a b i) (lim a i) (lim b i) = wcmp a b := hc
   have HA1 := Lib.hid a1
   have HA2 := Lib.hid a2
   have HB := Lib.hid hB
   have HI := Lib.hid hi4
   have ca := a1.cell hi4
   have cb := a2.cell hi4
   have e1 : ∀ x : Ext wr, x.w.cell? ⟨w.heap.size, i, none⟩ = some (.int .u64 (lim a i)) := fun x => (HA1.out.later' x.below).cell HI.out
   have e2 : ∀ x : Ext wr, x.w.cell? ⟨w.heap.size + 1, i, none⟩ = some (.int .u64 (lim b i)) := fun x => (HA2.out.later' x.below).cell HI.out
   clear hk hz hk0 hc a1 a2 hB hi4 ca cb
   generalize lim a i = x at *
   generalize lim b i = y at *
   generalize hrr : cmR a b i = r at *
   have HRR := Lib.hid hrr
   clear hrr
   by_cases h1 : x < y
   ·have hw : wcmp a b = -1 := by rw [← hst]; unfold cmpO; rw [if_pos h1]
    have HW := Lib.hid hw
    clear hst hw
    go_wp2
    refine wp_region_quietR (C := Grows wr) (by kernel_rfl) (by kernel_rfl) (grows_refl wr) ?_
    repeat (go_big_quiet_step (fail))
    refine wpQuiet_nil ?_
    rintro _ ⟨xx, rfl⟩
    go_wp2
    go_ret
    exact ⟨by rw [HW.out]; rfl, HB.out.trans (xx.below.mono HB.out.size)⟩
   ·by_cases h2 : y < x
    ·have hw : wcmp a b = 1 := by rw [← hst]; unfold cmpO; rw [if_neg h1, if_pos h2]
     have HW := Lib.hid hw
     clear hst hw
     go_wp2
     refine wp_region_quietR (C := Grows wr) (by kernel_rfl) (by kernel_rfl) (grows_refl wr) ?_
     repeat (go_big_quiet_step (fail))
     refine wpQuiet_nil ?_
     rintro _ ⟨xx, rfl⟩
     have hB1 := HB.out.trans (xx.below.mono HB.out.size)
     have e3 : ∀ x' : Ext xx.w, x'.w.cell? ⟨w.heap.size, i, none⟩ = some (.int .u64 x) := fun x' => (x'.cell (p := ⟨_, i, none⟩) (HA1.out.later' xx.below).lt).trans (e1 xx)
     have e4 : ∀ x' : Ext xx.w, x'.w.cell? ⟨w.heap.size + 1, i, none⟩ = some (.int .u64 y) := fun x' => (x'.cell (p := ⟨_, i, none⟩) (HA2.out.later' xx.below).lt).trans (e2 xx)
     have HB1 := Lib.hid hB1
     clear e1 e2 hB1
     generalize xx.w = w5 at *
     go_wp2
     refine wp_region_quietR (C := Grows w5) (by kernel_rfl) (by kernel_rfl) (grows_refl w5) ?_
     repeat (go_big_quiet_step (fail))
     refine wpQuiet_nil ?_
     rintro _ ⟨xy, rfl⟩
     go_wp2
     go_ret
     exact ⟨by rw [HW.out]; rfl, HB1.out.trans (xy.below.mono HB1.out.size)⟩
    ·have hw : r = wcmp a b := by rw [← hst]; unfold cmpO; rw [if_neg h1, if_neg h2]
     have HW := Lib.hid (HRR.out.trans hw)
     clear hst hw
     go_wp2
     refine wp_region_quietR (C := Grows wr) (by kernel_rfl) (by kernel_rfl) (grows_refl wr) ?_
     repeat (go_big_quiet_step (fail))
     refine wpQuiet_nil ?_
     rintro _ ⟨xx, rfl⟩
     have hB1 := HB.out.trans (xx.below.mono HB.out.size)
     have N1 := HA1.out.later' xx.below
     have N2 := HA2.out.later' xx.below
     have e3 : ∀ x' : Ext xx.w, x'.w.cell? ⟨w.heap.size, i, none⟩ = some (.int .u64 x) := fun x' => (x'.cell (p := ⟨_, i, none⟩) N1.lt).trans (e1 xx)
     have e4 : ∀ x' : Ext xx.w, x'.w.cell? ⟨w.heap.size + 1, i, none⟩ = some (.int .u64 y) := fun x' => (x'.cell (p := ⟨_, i, none⟩) N2.lt).trans (e2 xx)
     have HB1 := Lib.hid hB1
     have HN1 := Lib.hid N1
     have HN2 := Lib.hid N2
     clear e1 e2 hB1 N1 N2
     generalize xx.w = w5 at *
     go_wp2
     refine wp_region_quietR (C := Grows w5) (by kernel_rfl) (by kernel_rfl) (grows_refl w5) ?_
     repeat (go_big_quiet_step (fail))
     refine wpQuiet_nil ?_
     rintro _ ⟨xy, rfl⟩
     have N5 := Lib.hid (HN1.out.later' xy.below)
     have N6 := Lib.hid (HN2.out.later' xy.below)
     have N7 := Lib.hid (HB1.out.trans (xy.below.mono HB1.out.size))
     go_wp2
     go_roundw
     case rel => exact ⟨(i : Int) - 1, i, by simp, by have := HI.out; omega, rfl, HW.out, N5.out, N6.out, N7.out⟩
     case measure => first | (simp [intOf]; done) | (simp [intOf]; omega)
  ·obtain rfl : k = 0 := by omega
   obtain rfl : z = -1 := by omega
   have hw : wcmp a b = 0 := hc.symm
   have HW := Lib.hid hw
   have HB := Lib.hid hB
   clear hk hz hk0 hc a1 a2 hB hw
   go_wp2
   go_ret
   exact ⟨by rw [HW.out]; rfl, HB.out⟩
end
section
open Go Go.RowKit
variable {P : Program} (w : World)
def NewBlock (w : World) (v v' : Value) : Prop := v'.ownBlock = v.ownBlock ∨ v'.ownBlock = some w.heap.size
end
section
open Go Go.RowKit
variable {P : Program} (w : World)
theorem run_append_src (base : Nat) (t tx ty e : TypeId) (i : TypeInfo) (z : Value) (size bytes : Nat) (ht : P.underlying t = some (.slice e)) (hi : P.info? e = some i) (hz : i.zero = some z)
  (hsize : i.size = size) (hby : i.bytes = bytes) (hzs : z.cells.size = size) (_hs0 : 0 < size) (v : Value) (n : Nat) (xs : List Value) (hown : w.ownsRow base e size v n xs)
  (x : Value) (m : Nat) (hm : 0 < m) (news : List Value) (hsrc : Src P i.size tx x m news w)
  (hb : (n + m) * bytes ≤ 140737488355328) (h63 : n + m ≤ maxLen) (hbase : base ≤ w.heap.size) :
  ∃ v' w', (Builtin.append_ #[t, tx] ty #[v, x]).run P w = .ok v' w' ∧ w'.ownsRow base e size v' (n + m) (xs ++ news) ∧ w.grownBy w' v.ownBlock ∧ NewBlock w v v' := by
 have hl : news.length = m * size := by rw [← hsize]; exact hsrc.newsLen
 have hlen : (xs ++ news).length = (n + m) * size := by rw [List.length_append, hown.1, hl, Nat.add_mul]
 have grown : ∀ (old : Nat), old < n + m → ∀ (row : Option Nat),
   (w.drew.alloc (.cells (xs.toArray ++ news.toArray ++ Builtin.zeroCells z.cells (grownCap w (n + m) old e - (n + m))) e)).ownsRow base e size
    (.slice (some ⟨w.heap.size, 0, none⟩) (n + m) (grownCap w (n + m) old e)) (n + m) (xs ++ news) ∧
   w.grownBy (w.drew.alloc (.cells (xs.toArray ++ news.toArray ++ Builtin.zeroCells z.cells (grownCap w (n + m) old e - (n + m))) e)) row := by
  intro old ho row
  have hge := grownCap_ge w (n + m) old e
  have hcm : grownCap w (n + m) old e ≤ maxLen := grownCap_le_maxLen w (n + m) old e h63
  refine ⟨⟨hlen, .inr ⟨w.heap.size, _, _, rfl, hbase, heap_alloc_new w.drew _, hge, hcm, ?_, ?_⟩⟩, ⟨rfl, rfl, rfl, by simp, fun k hk _ => Below.heap_alloc w.drew _ k hk⟩⟩
  ·simp only [Array.size_append, List.size_toArray, size_zeroCells, hzs, hown.1, hl, ← Nat.add_mul]
   congr 1
   omega
  ·simp only [Array.toList_append, List.append_assoc]
   rw [← List.append_assoc, ← hlen]
   exact List.take_left
 rcases hown.2 with ⟨rfl, rfl⟩ | ⟨g, cap, cur, rfl, hbg, hg, hnc, hcm, hcs, htake⟩
 ·have hx : xs = [] := List.eq_nil_of_length_eq_zero (by simpa using hown.1)
  subst hx
  have hr := run_append_grow_src (P := P) w t tx ty e i z ht hi hz none 0 0 [] (by simp [Builtin.firstCells]) x m news hsrc (by omega) (by simp only [maxLen] at h63; omega) (growslice_fits (by omega) (by rw [hby]; exact hb))
  have hgr := grown 0 (by omega) (Value.ownBlock (.slice none 0 0))
  simp only [List.nil_append, Array.empty_append, Nat.zero_add] at hr hgr ⊢
  exact ⟨_, _, hr, hgr.1, hgr.2, .inr rfl⟩
 ·by_cases hroom : n + m ≤ cap
  ·have hfit : n * i.size + news.length ≤ cur.size := by rw [hl, hcs, hsize, ← Nat.add_mul]; exact Nat.mul_le_mul_right _ hroom
   have hst := run_storeCells_at P g (n * i.size) e news 0 cur w hg (by simpa using hfit) hsrc.one
   simp only [Nat.add_zero] at hst
   have hr : (Builtin.append_ #[t, tx] ty #[.slice (some ⟨g, 0, none⟩) n cap, x]).run P w = .ok (.slice (some ⟨g, 0, none⟩) (n + m) cap) (w.setRow g (cur.toList.take (n * i.size) ++ news ++ cur.toList.drop (n * i.size + news.length)).toArray) := by
    rcases hsrc.kind with ⟨e', hk⟩ | hk <;> simp [Builtin.append_, run_underlying ht, run_underlying hk, sizeOf, typeInfo, hi, hsrc.len, hroom, hsrc.cells, Addr.add_lit, hst]
   rw [hsize] at hr
   refine ⟨_, _, hr, ⟨hlen, .inr ⟨g, cap, _, rfl, hbg, setRow_heap w g cur _ e _ hg, hroom, hcm, ?_, ?_⟩⟩, ⟨rfl, rfl, rfl, by simp, fun k _ hk => setRow_other w g k _ (fun e => hk (by simp [Value.ownBlock, e]))⟩, .inl rfl⟩
   ·rw [hsize] at hfit
    simp only [List.size_toArray, List.length_append, List.length_take, List.length_drop, Array.length_toList]
    omega
   ·rw [htake, ← hlen]
    exact List.take_left
  ·have holds : (Builtin.firstCells i.size n (.slice (some ⟨g, 0, none⟩) n cap)).run P w.drew = .ok xs.toArray w.drew := by
    rw [hsize]
    exact run_firstCells_some w.drew size n ⟨g, 0, none⟩ n cap xs hown.1 (fun j u hj => by
     have := hown.cells (g := g) rfl j u hj
     simpa using this)
   have hr := run_append_grow_src (P := P) w t tx ty e i z ht hi hz (some ⟨g, 0, none⟩) n cap xs holds x m news hsrc (by omega) (by simp only [maxLen] at h63; omega) (growslice_fits (by omega) (by rw [hby]; exact hb))
   have hgr := grown cap (by omega) (Value.ownBlock (.slice (some ⟨g, 0, none⟩) n cap))
   have hap : ((xs ++ news).toArray : Array Value) = xs.toArray ++ news.toArray := by simp
   rw [hap] at hr
   exact ⟨_, _, hr, hgr.1, hgr.2, .inr rfl⟩
end
section
open Go Go.RowKit
attribute [local go_sem] Oper.semAt_some Grows wide_fn
theorem wpList_load_known {P : Program} {ops : Array Oper} {rest : List Oper} {o : Oper} {a : Act} {w : World} {Q : Exit → Act → World → Prop} (hw : Region.wanted o (yielded ops a.tmps) = true) (ty : TypeId) (x : Operand) (ho : o.op = .load ty x) (p : Addr) (hx : a.eval x = .pointer (some p)) (v : Value) (hr : (loadVar ty p).run P w = .ok v w)
  (h : wpList P ops Q rest (a.put o.dst v) w) : wpList P ops Q (o :: rest) a w :=
 wpList_step fun _ hK => by
  rw [if_pos hw]
  unfold Oper.wp execOp
  simp only [ho, hx, Instr.loadAt, Instr.sureAddr, Sem.run_bind, Sem.run_pure, Result.andThen_ok, hr]
  exact hK _ _ h
theorem run_loadVar_at {P : Program} (w : World) (a : Addr) (ty : TypeId) (cs : List Value) (d : TypeDesc) (hc : ∀ (j : Nat) (v : Value), cs[j]? = some v → w.cell? (a.add j) = some v)
  (hu : P.underlying ty = some d) (hd : d.isRow = true) (hi : (P.info? ty).map (·.size) = some cs.length) :
  (loadVar ty a).run P w = .ok (.agg cs.toArray) w := by
 have hl : (loadCells a cs.length).run P w = .ok cs.toArray w := run_loadCells_list (P := P) w a cs hc
 cases hq : P.info? ty with
 | none => simp [hq] at hi
 | some i =>
  have hs : i.size = cs.length := by simpa [hq] using hi
  have hagg : (isAgg ty).run P w = .ok true w := by
   unfold isAgg
   rw [Sem.run_bind, run_underlying hu w]
   cases d <;> simp_all
  simp [loadVar, Sem.run_bind, hagg, sizeOf, typeInfo, hq, hs, hl]
theorem wpQuiet_load {P : Program} {ops : Array Oper} {C : World → Prop} {rest : List Oper} {o : Oper} {a : Act} {Q : Act → Prop} (hw : Region.wanted o (yielded ops a.tmps) = true) (ty : TypeId) (x : Operand) (ho : o.op = .load ty x) (p : Addr) (hx : a.eval x = .pointer (some p)) (v : Value) (hr : ∀ w, C w → (loadVar ty p).run P w = .ok v w)
  (h : wpQuiet P ops C Q rest (a.put o.dst v)) : wpQuiet P ops C Q (o :: rest) a :=
 BigFrame.wpQuiet_want hw fun K hK => ⟨v, fun w hc => by
  unfold Oper.quietAt execOp
  simp only [ho, hx, Instr.loadAt, Instr.sureAddr, Sem.run_bind, Sem.run_pure, Result.andThen_ok, hr w hc]
  exact ⟨rfl, rfl⟩, hK _ h⟩
def wdL (x : Nat) : List Value := [.int .u64 (lim x 0), .int .u64 (lim x 1), .int .u64 (lim x 2), .int .u64 (lim x 3)]
theorem wdL_len (x : Nat) : (wdL x).length = 4 := rfl
theorem wdL_one (x : Nat) : ∀ u ∈ wdL x, u.oneCell' = true := by intro u hu; simp [wdL] at hu; rcases hu with rfl | rfl | rfl | rfl <;> rfl
def WdIn (W : World) (p : Addr) (x : Nat) : Prop := ∀ (j : Nat) (u : Value), (wdL x)[j]? = some u → W.cell? (p.add j) = some u
theorem infoWs : (Tryz.prog.info? 24).map (·.size) = some 4 := by kernel_rfl
theorem WdIn.load {W : World} {p : Addr} {x : Nat} (h : WdIn W p x) : (loadVar 24 p).run Tryz.prog W = .ok (.agg ((wdL x).toArray)) W :=
 run_loadVar_at W p _ (wdL x) _ h Tryz.underlying24 rfl (by rw [wdL_len]; exact infoWs)
def WdsAt (W : World) (v : Value) (l : List Nat) : Prop :=
 ∃ a cap, v = .slice a l.length cap ∧ l.length ≤ cap ∧ cap ≤ 9223372036854775807 ∧ (∀ x ∈ l, W256 x) ∧ ∀ (i : Nat) (x : Nat), l[i]? = some x → ∃ b, a = some b ∧ WdIn W (b.add (i * 4)) x
theorem WdsAt.keep {W X : World} {v : Value} {l : List Nat} (h : WdsAt W v l) (hk : ∀ (a : Addr) (u : Value), W.cell? a = some u → X.cell? a = some u) : WdsAt X v l := by
 obtain ⟨a, cap, h1, h2, h3, h4, h5⟩ := h
 refine ⟨a, cap, h1, h2, h3, h4, fun i x hx => ?_⟩
 obtain ⟨b, e, hc⟩ := h5 i x hx
 exact ⟨b, e, fun j u hj => hk _ _ (hc j u hj)⟩
theorem WdsAt.later {W X : World} {v : Value} {l : List Nat} (h : WdsAt W v l) (hb : Below W.heap.size W X) : WdsAt X v l := h.keep (cell_below hb)
theorem WdsAt.nil (W : World) : WdsAt W (.slice none 0 0) [] := ⟨none, 0, rfl, by simp, by omega, (fun x hx => by cases hx), fun i x hx => by simp at hx⟩
theorem WdsAt.shape {W : World} {v : Value} {l : List Nat} (h : WdsAt W v l) : ∃ a cap, v = .slice a l.length cap ∧ l.length ≤ cap ∧ cap ≤ 9223372036854775807 := by
 obtain ⟨a, cap, h1, h2, h3, _⟩ := h
 exact ⟨a, cap, h1, h2, h3⟩
theorem WdsAt.all {W : World} {v : Value} {l : List Nat} (h : WdsAt W v l) : ∀ x ∈ l, W256 x := by
 obtain ⟨a, cap, h1, h2, h3, h4, _⟩ := h
 exact h4
theorem WdsAt.ok {W : World} {v : Value} {l : List Nat} (h : WdsAt W v l) {i : Nat} {x : Nat} (hx : l[i]? = some x) : W256 x := h.all x (List.mem_of_getElem? hx)
theorem WdsAt.at {W : World} {a : Option Addr} {n cap : Nat} {l : List Nat} (h : WdsAt W (.slice a n cap) l) {i : Nat} {x : Nat} (hx : l[i]? = some x) : ∃ b, a = some b ∧ WdIn W (b.add (i * 4)) x := by
 obtain ⟨a', cap', h1, h2, h3, h4, h5⟩ := h
 injection h1 with e1 e2 e3
 subst e1
 exact h5 i x hx
theorem WdsAt.in {W : World} {b : Addr} {n cap : Nat} {l : List Nat} (h : WdsAt W (.slice (some b) n cap) l) {i : Nat} {x : Nat} (hx : l[i]? = some x) : WdIn W (b.add (i * 4)) x := by
 obtain ⟨b', e, h⟩ := h.at hx
 injection e with e
 subst e
 exact h
def flatW (l : List Nat) : List Value := l.flatMap wdL
theorem flatW_length : ∀ (l : List Nat), (flatW l).length = l.length * 4
 | [] => rfl
 | x :: l => by
  have := flatW_length l
  simp only [flatW, List.flatMap_cons, List.length_append, List.length_cons] at this ⊢
  rw [this, wdL_len]
  omega
theorem flatW_at : ∀ (l : List Nat) (i : Nat) (x : Nat) (j : Nat), l[i]? = some x → j < 4 → (flatW l)[i * 4 + j]? = (wdL x)[j]?
 | [], i, x, j, h, _ => by simp at h
 | y :: l, 0, x, j, h, hj => by
  simp at h
  subst h
  rw [show flatW (y :: l) = wdL y ++ flatW l from rfl, List.getElem?_append_left (by rw [wdL_len]; omega), Nat.zero_mul, Nat.zero_add]
 | y :: l, i + 1, x, j, h, hj => by
  rw [show flatW (y :: l) = wdL y ++ flatW l from rfl, List.getElem?_append_right (by rw [wdL_len]; omega), wdL_len, show (i + 1) * 4 + j - 4 = i * 4 + j by omega]
  exact flatW_at l i x j (by simpa using h) hj
def WdRow (W : World) (base : Nat) (v : Value) (l : List Nat) : Prop := W.ownsRow base 24 4 v l.length (flatW l)
theorem WdRow.keys {W : World} {base : Nat} {v : Value} {l : List Nat} (h : WdRow W base v l) (hw : ∀ x ∈ l, W256 x) : WdsAt W v l := by
 rcases h.2 with ⟨rfl, h0⟩ | ⟨g, cap, cur, rfl, hbg, hg', hnc, hcm, hcs, htake⟩
 ·have : l = [] := List.eq_nil_of_length_eq_zero h0
  subst this
  exact WdsAt.nil W
 ·refine ⟨some ⟨g, 0, none⟩, cap, rfl, hnc, by simpa [maxLen] using hcm, hw, fun i x hx => ⟨⟨g, 0, none⟩, rfl, fun j u hj => ?_⟩⟩
  have hj4 : j < 4 := by have := (List.getElem?_eq_some_iff.1 hj).1; rwa [wdL_len] at this
  rw [Addr.add_add]
  exact World.ownsRow.cells h (g := g) rfl _ _ ((flatW_at l i x j hx hj4).trans hj)
theorem WdRow.later {W X : World} {base : Nat} {v : Value} {l : List Nat} (h : WdRow W base v l) (hb : Below W.heap.size W X) : WdRow X base v l := by
 refine ⟨h.1, ?_⟩
 rcases h.2 with h0 | ⟨g, cap, cur, rfl, hbg, hg', hr⟩
 ·exact .inl h0
 ·exact .inr ⟨g, cap, cur, rfl, hbg, (hb.block g (Array.getElem?_eq_some_iff.1 hg').1).trans hg', hr⟩
theorem infoW : (Tryz.prog.info? 24).map (fun i => (i.zero, i.size, i.bytes)) = some (some (.agg #[.int .u64 0, .int .u64 0, .int .u64 0, .int .u64 0]), 4, 32) := by kernel_rfl
theorem infoW_of : ∃ i, Tryz.prog.info? 24 = some i ∧ i.zero = some (.agg #[.int .u64 0, .int .u64 0, .int .u64 0, .int .u64 0]) ∧ i.size = 4 ∧ i.bytes = 32 := by
 have h := infoW
 rcases hi : Tryz.prog.info? 24 with _ | i
 ·rw [hi] at h; cases h
 ·rw [hi] at h
  injection h with h
  simp only [Prod.mk.injEq] at h
  exact ⟨i, rfl, h.1, h.2.1, h.2.2⟩
theorem wpList_append_runW {P : Program} {w w' : World} {ops : Array Oper} {rest : List Oper} {o : Oper} {a : Act} {Q : Exit → Act → World → Prop}
  (hg : o.guard = none) (s x : Operand) (t : TypeId) (hop : o.op = Op.call { callee := Callee.builtin Builtin.append, args := #[s, x], argTypes := #[t, t] })
  (v x0 v' : Value) (hs : a.eval s = v) (hx : a.eval x = x0) (hr : (Builtin.append_ #[t, t] o.type #[v, x0]).run P w = .ok v' w')
  (hK : wpList P ops Q rest (a.put o.dst v') w') : wpList P ops Q (o :: rest) a w := by
 refine wpList_plain hg fun K hK' => ?_
 unfold Oper.wp execOp
 simp only [hop, resolve, invoke, builtin, Sem.run_bind, Sem.run_pure, Result.andThen_ok, List.map_toArray, List.map_cons, List.map_nil, hs, hx, hr]
 exact hK' _ _ hK
theorem copy_madeW (A : World) (sv : Value) (l : List Nat) (h : WdsAt A sv l) (hl : l.length ≤ 100000) :
  ∃ v' w', (Builtin.append_ #[27, 27] 27 #[.slice (some ⟨A.heap.size, 0, none⟩) 0 0, sv]).run Tryz.prog (A.alloc (.cells #[] 24)) = .ok v' w' ∧ WdRow w' A.heap.size v' l ∧ Below A.heap.size A w' := by
 have hb0 := newA A (.cells #[] 24)
 have h0 := World.ownsRow_made (base := A.heap.size) (e := 24) (size := 4) A #[] 0 (Nat.le_refl _) (Nat.zero_le _) rfl
 replace h := h.later hb0
 obtain ⟨A1, hA1⟩ : ∃ A1, A.alloc (.cells #[] 24) = A1 := ⟨_, rfl⟩
 rw [hA1] at hb0 h0 h ⊢
 obtain ⟨a, cap, rfl, h2, h3, h4, h5⟩ := h
 obtain ⟨i, hi, hz, hsize, hby⟩ := infoW_of
 cases l with
 | nil =>
  refine ⟨_, _, run_append_nothing (P := Tryz.prog) A1 27 27 27 24 i Tryz.underlying27 hi (some ⟨A.heap.size, 0, none⟩) 0 0 (Nat.le_refl _) (.slice a 0 cap) ?_, h0, hb0⟩
  cases a with
  | none => exact Src.ofNil _ Tryz.underlying27 cap
  | some b => exact Src.ofSlice _ Tryz.underlying27 b 0 cap [] (by simp) (fun j u hj => by simp at hj) (fun u hu => by cases hu)
 | cons x r =>
  obtain ⟨b, rfl, _⟩ := h5 0 x rfl
  obtain ⟨v', w', hr, hown, hgr, hnb⟩ := run_append_src (P := Tryz.prog) A1 A.heap.size 27 27 27 24 i _ 4 32 Tryz.underlying27 hi hz hsize hby rfl (by decide) (.slice (some ⟨A.heap.size, 0, none⟩) 0 0) 0 [] h0 (.slice (some b) (x :: r).length cap) (x :: r).length (by simp) (flatW (x :: r)) (by
   rw [hsize]
   refine Src.ofSlice _ Tryz.underlying27 b _ cap _ (flatW_length _) (fun j u hj => ?_) (fun u hu => ?_)
   ·have hj8 : j < (x :: r).length * 4 := by
     have := (List.getElem?_eq_some_iff.1 hj).1
     rwa [flatW_length] at this
    obtain ⟨y, hy⟩ : ∃ y, (x :: r)[j / 4]? = some y := ⟨_, List.getElem?_eq_getElem (by omega)⟩
    obtain ⟨b', hb', hc⟩ := h5 (j / 4) y hy
    injection hb' with hb'
    subst hb'
    have hf := flatW_at (x :: r) (j / 4) y (j % 4) hy (by omega)
    rw [show j / 4 * 4 + j % 4 = j by omega, hj] at hf
    have h8 := hc (j % 4) u hf.symm
    rw [Addr.add_add, show j / 4 * 4 + j % 4 = j by omega] at h8
    exact h8
   ·obtain ⟨y, _, hy⟩ := List.mem_flatMap.1 hu
    exact wdL_one y u hy) (by omega) (by unfold maxLen; omega) hb0.size
  refine ⟨v', w', hr, ?_, ?_⟩
  ·unfold WdRow
   rw [Nat.zero_add, List.nil_append] at hown
   exact hown
  ·exact hb0.grown hgr hb0.size (by intro k hk; simp [Value.ownBlock] at hk; omega)
theorem clone_words (W : World) (sv : Value) (l : List Nat) (hs : WdsAt W sv l) (hl : l.length ≤ 100000) :
  Calls Tryz.prog 18 #[sv] W fun e w' => ∃ v', e = .returned v' ∧ WdRow w' W.heap.size v' l ∧ Below W.heap.size W w' := by
 have q22 := fun (w : World) (a : Option Addr) (n c n' c' : Nat) => Lib.run_eql_slice_nil (P := Tryz.prog) w 27 _ a n c n' c' Tryz.underlying27
 have HS := hid hs
 obtain ⟨v', w', hr, hrow, hb⟩ := copy_madeW W sv l hs hl
 have HR := hid hrow
 have HB := hid hb
 clear hrow hb hl
 obtain ⟨a, cap, rfl, hnc, hcm⟩ := hs.shape
 cases a with
 | none =>
  have h0 : l = [] := by
   cases l with
   | nil => rfl
   | cons x r =>
    obtain ⟨b, e, _⟩ := hs.at (i := 0) (x := x) rfl
    cases e
  subst h0
  clear hr hs hnc hcm
  go_enter Tryz.func18, Tryz.ntmps18
  go_wp2_with fail
  go_ret
  exact ⟨_, rfl, World.ownsRow_nil _ _ _ _, Below.refl _ _⟩
 | some b =>
  obtain ⟨n, hn⟩ : ∃ n, l.length = n := ⟨_, rfl⟩
  rw [hn] at hr ⊢
  clear hs hnc hcm hn
  go_enter Tryz.func18, Tryz.ntmps18
  go_wp2_with (at_builtin; refine wpList_append_runW rfl (.tmp 5) (.tmp 6) 27 rfl _ _ _ rfl rfl hr ?_)
  go_ret
  exact ⟨_, rfl, HR.out, HB.out⟩
theorem words_made (w : World) (l : List Nat) (h : ∀ x ∈ l, W256 x) (hl : l.length ≤ 100000) : WdsAt (w.alloc (.cells (flatW l).toArray 24)) (.slice (some ⟨w.heap.size, 0, none⟩) l.length l.length) l := by
 refine ⟨some ⟨w.heap.size, 0, none⟩, l.length, rfl, Nat.le_refl _, by omega, h, fun i x hx => ⟨_, rfl, fun j u hj => ?_⟩⟩
 have hj4 : j < 4 := by have := (List.getElem?_eq_some_iff.1 hj).1; rwa [wdL_len] at this
 rw [Addr.add_add, Addr.add_mid, Nat.zero_add]
 exact (Has.new w 24 (flatW l).toArray).cell _ _ (by simpa using (flatW_at l i x j hx hj4).trans hj)
theorem WdRow.nil (W : World) (base : Nat) : WdRow W base (.slice none 0 0) [] := World.ownsRow_nil _ _ _ _
theorem WdRow.shapeW {W : World} {base : Nat} {v : Value} {l : List Nat} (h : WdRow W base v l) : ∃ a cap, v = .slice a l.length cap := by
 rcases h.2 with ⟨rfl, h0⟩ | ⟨g, cap, cur, rfl, _⟩
 ·exact ⟨none, 0, by rw [h0]⟩
 ·exact ⟨_, _, rfl⟩
theorem WdRow.blockW {W : World} {base : Nat} {v : Value} {l : List Nat} (h : WdRow W base v l) {b : Nat} (hb : v.ownBlock = some b) : base ≤ b ∧ ∃ cs, W.heap[b]? = some (.cells cs 24 (0, 0)) := by
 rcases h.2 with ⟨rfl, h0⟩ | ⟨g, cap, cur, rfl, hbg, hg', _⟩
 ·cases hb
 ·injection hb with hb
  subst hb
  exact ⟨hbg, cur, hg'⟩
theorem flatW_append (a b : List Nat) : flatW (a ++ b) = flatW a ++ flatW b := by simp [flatW]
theorem infoWz_of : ∃ i z, Tryz.prog.info? 24 = some i ∧ i.zero = some z ∧ z.cells.size = 4 ∧ i.size = 4 ∧ i.bytes = 32 := by
 obtain ⟨i, h1, h2, h3, h4⟩ := infoW_of
 exact ⟨i, _, h1, h2, rfl, h3, h4⟩
theorem append_words (A : World) (base : Nat) (v : Value) (ps : List Nat) (h : WdRow A base v ps) (hb : base ≤ A.heap.size) (sv : Value) (qs : List Nat) (hq : WdsAt A sv qs) (hl : ps.length + qs.length ≤ 100000) :
  ∃ v' w', (Builtin.append_ #[27, 27] 27 #[v, sv]).run Tryz.prog A = .ok v' w' ∧ WdRow w' base v' (ps ++ qs) ∧ A.grownBy w' v.ownBlock ∧ Below base A w' := by
 obtain ⟨i, z, hi, hz, hzs, hsize, hby⟩ := infoWz_of
 have bel : ∀ w', A.grownBy w' v.ownBlock → Below base A w' := fun w' hgr => ⟨hgr.os, hgr.tape, hgr.output, hgr.size, fun k hk => hgr.block k (by omega) (fun e => by have := (h.blockW e.symm).1; omega)⟩
 obtain ⟨a, cap, rfl, h2, h3, _, h5⟩ := hq
 cases qs with
 | nil =>
  obtain ⟨av, cv, rfl⟩ := h.shapeW
  have hr := run_append_nothing (P := Tryz.prog) A 27 27 27 24 i Tryz.underlying27 hi av ps.length cv (by
   rcases h.2 with ⟨e, h0⟩ | ⟨g, cap, cur, e, hbg, hg', hnc, _⟩
   ·injection e with _ _ e; omega
   ·injection e with _ _ e; subst e; exact hnc) (.slice a 0 cap) (by
   cases a with
   | none => exact Src.ofNil _ Tryz.underlying27 cap
   | some b => exact Src.ofSlice _ Tryz.underlying27 b 0 cap [] (by simp) (fun j u hj => by simp at hj) (fun u hu => by cases hu))
  refine ⟨_, _, hr, by rw [List.append_nil]; exact h, ⟨rfl, rfl, rfl, Nat.le_refl _, fun _ _ _ => rfl⟩, Below.refl _ _⟩
 | cons q r =>
  obtain ⟨b, rfl, _⟩ := h5 0 q rfl
  obtain ⟨v', w', hr, hown, hgr, hnb⟩ := run_append_src (P := Tryz.prog) A base 27 27 27 24 i z 4 32 Tryz.underlying27 hi hz hsize hby hzs (by decide) v ps.length (flatW ps) h (.slice (some b) (q :: r).length cap) (q :: r).length (by simp) (flatW (q :: r)) (by
   rw [hsize]
   refine Src.ofSlice _ Tryz.underlying27 b _ cap _ (flatW_length _) (fun j u hj => ?_) (fun u hu => ?_)
   ·have hj8 : j < (q :: r).length * 4 := by
     have := (List.getElem?_eq_some_iff.1 hj).1
     rwa [flatW_length] at this
    obtain ⟨y, hy⟩ : ∃ y, (q :: r)[j / 4]? = some y := ⟨_, List.getElem?_eq_getElem (by omega)⟩
    obtain ⟨b', hb', hc⟩ := h5 (j / 4) y hy
    injection hb' with hb'
    subst hb'
    have hf := flatW_at (q :: r) (j / 4) y (j % 4) hy (by omega)
    rw [show j / 4 * 4 + j % 4 = j by omega, hj] at hf
    have h8 := hc (j % 4) u hf.symm
    rwa [Addr.add_add, show j / 4 * 4 + j % 4 = j by omega] at h8
   ·obtain ⟨y, hy, hu'⟩ := List.mem_flatMap.1 hu
    exact wdL_one y u hu') (by omega) (by unfold maxLen; omega) hb
  refine ⟨v', w', hr, ?_, hgr, bel w' hgr⟩
  unfold WdRow
  rw [flatW_append, List.length_append]
  exact hown
theorem grow_words (W : World) (n : Nat) (hn : n ≤ 100000) :
  Calls Tryz.prog 89 #[.slice none 0 0, .int .i64 (n : Int)] W fun e w' => ∃ v', e = .returned v' ∧ WdRow w' W.heap.size v' [] ∧ Below W.heap.size W w' := by
 have hnI : (n : Int) ≤ 100000 := by omega
 have hn0 : ¬ ((n : Int) < 0) := by omega
 by_cases h0 : n = 0
 ·subst h0
  go_enter Tryz.func89, Tryz.ntmps89
  go_wp2_with fail
  go_ret
  exact ⟨_, rfl, WdRow.nil _ _, Below.refl _ _⟩
 ·have h4 : (n : Int) > 0 := by omega
  obtain ⟨i, z, hi, hz, hzs, hsz, hby⟩ := infoWz_of
  have h := Lib.run_append_grow_zeros (P := Tryz.prog) W 27 3 27 24 i z .i64 .i64 Tryz.underlying27 Tryz.underlying3 hi hz none 0 0 [] (run_firstCells_none W.drew i.size 0 0 0) n (by omega) (by omega) (by omega) (by omega) (by rw [hby]; omega) (by rw [Nat.zero_add]; exact growslice_fits (by omega) (by rw [hby]; omega))
  simp only [Nat.zero_add] at h
  have hge : n ≤ grownCap W n 0 24 := grownCap_ge W n 0 _
  have hcm : grownCap W n 0 24 ≤ maxLen := grownCap_le_maxLen W n 0 _ (by unfold maxLen; omega)
  generalize grownCap W n 0 24 = G at *
  obtain ⟨cs, hcs⟩ : ∃ cs : Array Value, #[] ++ Builtin.zeroCells z.cells n ++ Builtin.zeroCells z.cells (G - n) = cs := ⟨_, rfl⟩
  have hcz : cs.size = G * 4 := by
   rw [← hcs]
   simp only [Array.size_append, size_zeroCells, hzs]
   simp
   omega
  rw [show ([] : List Value).toArray = #[] from rfl, hcs] at h
  have hq0 := newA W (.cells cs 24)
  have hrow := hid (show WdRow (W.drew.alloc (.cells cs 24)) W.heap.size (.slice (some ⟨W.heap.size, 0, none⟩) 0 G) [] from World.ownsRow_made (base := W.heap.size) (e := 24) (size := 4) W.drew cs G (Nat.le_refl _) hcm hcz)
  have HB := hid (show Below W.heap.size W (W.drew.alloc (.cells cs 24)) from ⟨rfl, rfl, rfl, by simp, fun k hk => Below.heap_alloc W.drew _ k hk⟩)
  have hG63 : (G : Int) ≤ 9223372036854775807 := by unfold maxLen at hcm; omega
  have hG0 : (0 : Int) ≤ (G : Int) := by omega
  clear hi hz hzs hsz hby hcs hcz hq0 hge hcm h0
  go_enter Tryz.func89, Tryz.ntmps89
  go_wp2_with (at_builtin; refine Lib.wpList_append_run _ rfl _ _ _ _ rfl _ _ rfl rfl _ _ h ?_)
  go_ret
  exact ⟨_, rfl, hrow.out, HB.out⟩
def sumW (vs : List (Value × List Nat)) : Nat := (vs.map (·.2.length)).sum
def catW (vs : List (Value × List Nat)) : List Nat := vs.flatMap (·.2)
theorem catW_len : ∀ (vs : List (Value × List Nat)), (catW vs).length = sumW vs
 | [] => rfl
 | x :: l => by
  have := catW_len l
  simp only [catW, sumW, List.flatMap_cons, List.length_append, List.map_cons, List.sum_cons] at this ⊢
  omega
theorem sumW_take (vs : List (Value × List Nat)) (k : Nat) (q : Value × List Nat) (h : vs[k]? = some q) : sumW (vs.take (k + 1)) = sumW (vs.take k) + q.2.length := by
 unfold sumW
 rw [List.take_add_one, h, List.map_append, List.sum_append]
 simp
theorem catW_take (vs : List (Value × List Nat)) (k : Nat) (q : Value × List Nat) (h : vs[k]? = some q) : catW (vs.take (k + 1)) = catW (vs.take k) ++ q.2 := by
 unfold catW
 rw [List.take_add_one, h, List.flatMap_append]
 simp
theorem sumW_le (vs : List (Value × List Nat)) (k : Nat) : sumW (vs.take k) ≤ sumW vs := by
 have e : sumW vs = sumW (vs.take k) + sumW (vs.drop k) := by
  conv => lhs; rw [← List.take_append_drop k vs]
  unfold sumW
  rw [List.map_append, List.sum_append]
 omega
theorem concat_words (W : World) (B : Nat) (vs : List (Value × List Nat)) (hv : ∀ (i : Nat) (q : Value × List Nat), vs[i]? = some q → W.cell? ⟨B, i, none⟩ = some q.1 ∧ WdsAt W q.1 q.2) (hn : vs.length ≤ 1000) (hs : sumW vs ≤ 100000) :
  Calls Tryz.prog 60 #[.slice (some ⟨B, 0, none⟩) vs.length vs.length] W fun e w' => ∃ v', e = .returned v' ∧ WdRow w' W.heap.size v' (catW vs) ∧ Below W.heap.size W w' := by
 have HV := hid hv
 have HSS := hid hs
 have HTK := hid (sumW_le vs)
 obtain ⟨n, hnn⟩ : ∃ n, vs.length = n := ⟨_, rfl⟩
 rw [hnn] at hn ⊢
 have HN := hid hnn
 have HL := hid hn
 clear hv hs hnn hn
 go_enter Tryz.func60, Tryz.ntmps60
 go_wp2_with fail
 go_loopw [11, 3] (fun i s wr => ∃ k : Nat, k ≤ n ∧ i = .int .i64 (k : Int) ∧ s = .int .i64 ((sumW (vs.take k) : Nat) : Int) ∧ wr = W) (fun i _ _ => n - (intOf i).toNat)
 case atStart => exact ⟨0, by omega, rfl, rfl, rfl⟩
 case round =>
  obtain ⟨k, hk, rfl, rfl, hw⟩ := hrel
  obtain rfl : W = wr := hw.symm
  clear hw
  have hlk : (sumW (vs.take k) : Int) ≤ 100000 := by have := HTK.out k; have := HSS.out; omega
  have hs0 : (0 : Int) ≤ ((sumW (vs.take k) : Nat) : Int) := by omega
  by_cases hkn : k < n
  ·have hknI : (k : Int) < (n : Int) := by omega
   have hk0 : (0 : Int) ≤ (k : Int) := by omega
   have hkb : (k : Int) ≤ 1000 := by have := HL.out; omega
   obtain ⟨q, hq⟩ : ∃ q, vs[k]? = some q := ⟨_, List.getElem?_eq_getElem (by have := HN.out; omega)⟩
   obtain ⟨c, hr⟩ := HV.out k q hq
   obtain ⟨a, cap, hqv, hnc, hcm, _, _⟩ := hr
   rw [hqv] at c
   have HT := hid (sumW_take vs k q hq)
   have hl2 : ((sumW (vs.take k) : Nat) : Int) + (q.2.length : Int) ≤ 100000 := by have := HTK.out (k + 1); have := HSS.out; have := HT.out; omega
   have hl0 : ¬ ((sumW (vs.take k) : Nat) : Int) + (q.2.length : Int) < 0 := by omega
   have ha : (⟨B, 0, none⟩ : Addr).add k = ⟨B, k, none⟩ := by unfold Addr.add; split <;> simp_all
   have HK := hid hkn
   clear hkn hq hnc hcm hk
   generalize hsum : sumW (vs.take k) = sm at *
   clear hsum
   go_wp2_with fail
   go_roundw
   case rel => exact ⟨k + 1, by have := HK.out; omega, by simp, by rw [HT.out]; simp, by first | trivial | rfl⟩
   case measure => have := HK.out; simp [intOf]; omega
  ·obtain rfl : k = n := by omega
   have hkk : ¬ (k : Int) < (k : Int) := by omega
   have HE := hid (show vs.take k = vs by rw [← HN.out, List.take_length])
   have hG := hid (grow_words W (sumW (vs.take k)) (by have := HTK.out k; have := HSS.out; omega))
   generalize hsum : sumW (vs.take k) = sm at *
   clear hsum
   go_wp2_with fail
   refine hG.out.mono ?_
   rintro _ w1 ⟨v1, rfl, hrow, q1⟩
   have R1 := hid hrow
   have Q1 := hid q1
   clear hrow q1 hG
   go_wp2_with fail
   go_loopw [27, 6] (fun i v wx => ∃ (m : Nat), m ≤ k ∧ i = .int .i64 (m : Int) ∧ WdRow wx W.heap.size v (catW (vs.take m)) ∧ Below W.heap.size W wx) (fun i _ _ => k - (intOf i).toNat)
   case atStart => exact ⟨0, by omega, rfl, R1.out, Q1.out⟩
   case round =>
    obtain ⟨m, hm, rfl, hrow, hq⟩ := hrel
    have RO := hid hrow
    have HQ := hid hq
    clear hrow hq
    by_cases hmk : m < k
    ·have hmI : (m : Int) < (k : Int) := by omega
     have hm0 : (0 : Int) ≤ (m : Int) := by omega
     have hmb : (m : Int) ≤ 1000 := by have := HL.out; omega
     obtain ⟨q, hq⟩ : ∃ q, vs[m]? = some q := ⟨_, List.getElem?_eq_getElem (by have := HN.out; omega)⟩
     obtain ⟨c, hr⟩ := HV.out m q hq
     have c' := cell_below HQ.out _ _ c
     have ha : (⟨B, 0, none⟩ : Addr).add m = ⟨B, m, none⟩ := by unfold Addr.add; split <;> simp_all
     have HT := hid (catW_take vs m q hq)
     have hlen : (catW (vs.take m)).length + q.2.length ≤ 100000 := by
      have e := congrArg List.length HT.out
      rw [catW_len, List.length_append] at e
      have := HTK.out (m + 1)
      have := HSS.out
      omega
     obtain ⟨v', w', happ, hrow', _, hbel⟩ := append_words _ W.heap.size u6 _ RO.out HQ.out.size q.1 q.2 (hr.later HQ.out) hlen
     have R2 := hid hrow'
     have Q2 := hid (HQ.out.trans hbel)
     have HK := hid hmk
     generalize q.1 = qv at *
     clear hmk hq hr hlen hrow' hbel c hm
     go_wp2_with (at_builtin; refine wpList_append_runW rfl (.tmp 31) (.tmp 32) 27 rfl _ _ _ rfl rfl happ ?_)
     go_roundw
     case rel => exact ⟨m + 1, by have := HK.out; omega, by simp, by rw [HT.out]; exact R2.out, Q2.out⟩
     case measure => have := HK.out; simp [intOf]; omega
    ·obtain rfl : m = k := by omega
     have hmm : ¬ (m : Int) < (m : Int) := by omega
     have RF := hid (show WdRow wr W.heap.size u6 (catW vs) by have := RO.out; rwa [HE.out] at this)
     go_wp2_with fail
     go_ret
     exact ⟨_, rfl, RF.out, HQ.out⟩
end
end Go.Proofs.YtnkhmgmganejmaaGreatDoor
