/- A word of digits, and digits carried: the document's own answer. For every row of digits. -/
import Derived.Test.YtnjmhcooejcehaaDoorRefA
namespace Go.Proofs.YtnjmhcooejcehaaDoor
open Go Go.RowKit Go.Shelf
attribute [local go_sem] Oper.semAt_some Grows wide_fn

/-! ### A word of digits -/
set_option maxRecDepth 100000 in
set_option maxHeartbeats 2000000 in
theorem fromDigits_any (d : Nat → Int) (hd : ∀ j, 0 ≤ d j ∧ d j < 256) (n g cap : Nat) (hn : n ≤ 140737488355328) (hz : ∀ j, n ≤ j → d j = 0) (w : World) (hx : IntsAt w g n d) :
    Calls Tryd.prog 42 #[.slice (some ⟨g, 0, none⟩) n cap] w fun e w' => e = .returned (wv (valI d 32).toNat) ∧ Below w.heap.size w w' := by
  rw [wv_of (fd_parts d hd)]
  have hgl := hx.lt
  have A1 := (Arr4.mk0' w 24).alloc (.cells #[.int .u64 0, .int .u64 0, .int .u64 0, .int .u64 0] 24)
  have A2 := Arr4.mk0' (w.alloc (.cells #[.int .u64 0, .int .u64 0, .int .u64 0, .int .u64 0] 24)) 24
  have X0 := (hx.alloc (.cells #[.int .u64 0, .int .u64 0, .int .u64 0, .int .u64 0] 24)).alloc (.cells #[.int .u64 0, .int .u64 0, .int .u64 0, .int .u64 0] 24)
  have B0 := ((Below.refl _ w).alloc (Nat.le_refl _) (.cells #[.int .u64 0, .int .u64 0, .int .u64 0, .int .u64 0] 24)).alloc (by simp) (.cells #[.int .u64 0, .int .u64 0, .int .u64 0, .int .u64 0] 24)
  have s0 : w.heap.size + 2 ≤ ((w.alloc (.cells #[.int .u64 0, .int .u64 0, .int .u64 0, .int .u64 0] 24)).alloc (.cells #[.int .u64 0, .int .u64 0, .int .u64 0, .int .u64 0] 24)).heap.size := by simp
  rw [World.size_alloc] at A2
  have HZ := Lib.hid hz
  have HD := Lib.hid hd
  clear hx hz hd
  obtain ⟨m, hm⟩ : ∃ m, m = min n 32 := ⟨_, rfl⟩
  have hm32 : m ≤ 32 := by omega
  have hmn : m ≤ n := by omega
  have HM := Lib.hid hm
  go_enter Tryd.func42, Tryd.ntmps42
  by_cases hle : n ≤ 32
  case pos =>
    obtain rfl : m = n := by omega
    have z1 : (m : Int) ≤ 32 := by omega
    have z0 : (0 : Int) ≤ (m : Int) := by omega
    clear hle hm32 hmn hn hm
    go_wp2
    obtain ⟨W0, hW0⟩ : ∃ W0, (w.alloc (.cells #[.int .u64 0, .int .u64 0, .int .u64 0, .int .u64 0] 24)).alloc (.cells #[.int .u64 0, .int .u64 0, .int .u64 0, .int .u64 0] 24) = W0 := ⟨_, rfl⟩
    rw [hW0] at A1 A2 X0 B0 s0 ⊢
    clear hW0
    go_loopw [4] (fun i wr => ∃ (z : Int) (k : Nat), i = .int .i64 z ∧ k ≤ m ∧ z = (k : Int) - 1 ∧ Arr4 wr w.heap.size 24 (fun _ => 0) ∧ Arr4 wr (w.heap.size + 1) 24 (fdAt d k) ∧ IntsAt wr g m d ∧ Below w.heap.size w wr) (fun i _ => (intOf i + 1).toNat)
    case atStart =>
      refine ⟨_, m, rfl, by omega, by omega, A1, ?_, X0, B0⟩
      have hs := fdAt_start d m HZ.out
      rw [← HM.out] at hs
      exact A2.same4 (hs 0 (by omega)).symm (hs 1 (by omega)).symm (hs 2 (by omega)).symm (hs 3 (by omega)).symm
    case round =>
      obtain ⟨z, k, rfl, hk, hz, a1, a2, xx, hB⟩ := hrel
      clear A1 A2 X0 B0 s0
      by_cases hk0 : 0 < k
      · obtain ⟨i, rfl⟩ : ∃ i, k = i + 1 := ⟨k - 1, by omega⟩
        obtain rfl : z = (i : Int) := by omega
        have hiM : i < m := by omega
        have hi32 : i < 32 := by have := HM.out; omega
        have hiN : i < m := by have := HM.out; omega
        obtain ⟨p, hp⟩ : ∃ p, p = i / 8 := ⟨_, rfl⟩
        have hp4 : p < 4 := by omega
        have hq : ((i : Int).tdiv 8) = (p : Int) := by rw [Int.tdiv_eq_ediv_of_nonneg (by omega)]; omega
        have hst := Lib.hid (fdAt_step d i p hp)
        obtain ⟨hr0, hr1⟩ := fdAt_room d HD.out i p hp
        obtain ⟨hd0, hd1⟩ := HD.out i
        have cp := a2.cell hp4
        have fp := a2.frozen p
        have cd := xx.cell hiN
        have hi0 : (0 : Int) ≤ (i : Int) := by omega
        have hiI : (i : Int) < (m : Int) := by omega
        have hi31 : (i : Int) < 32 := by omega
        have hp0 : (0 : Int) ≤ (p : Int) := by omega
        have hpI : (p : Int) < 4 := by omega
        have HA1 := Lib.hid a1
        have HA2 := Lib.hid a2
        have HX := Lib.hid xx
        have HB := Lib.hid hB
        have HI := Lib.hid hiM
        have hmx : Tryd.prog.follows .mixedOrders = true := by kernel_rfl
        have hgw : g ≠ w.heap.size + 1 := by omega
        clear hk hz hk0 a1 a2 xx hB hiM hi32 hiN hp hp4
        generalize fdAt d (i + 1) = ff at *
        generalize d i = di at *
        have ecp : ∀ x : Ext wr, x.w.cell? ⟨w.heap.size + 1, p, none⟩ = some (.int .u64 (ff p)) := fun x => (x.cell (p := ⟨_, p, none⟩) HA2.out.lt).trans cp
        have efp : ∀ x : Ext wr, x.w.frozen? ⟨w.heap.size + 1, p, none⟩ = false := fun x => (x.frozen (p := ⟨_, p, none⟩) HA2.out.lt).trans fp
        have ecd : ∀ x : Ext wr, x.w.cell? ⟨g, i, none⟩ = some (.int .i64 di) := fun x => (x.cell (p := ⟨g, i, none⟩) HX.out.lt).trans cd
        clear cp fp cd
        go_wp2
        refine wp_region_mix (C := Grows wr) [some true, some true, some true, some true, some true, some true, some true, some true, some true, some true, some true, some true, some true, some true, none] hmx (by kernel_rfl) (by kernel_rfl) (grows_refl wr) ?_
        simp only [headOf, tailOf]
        repeat (go_big_quiet_step (fail))
        refine wpQuiet_nil ?_
        rintro _ ⟨x, rfl⟩
        have N1 := Lib.hid ((HA1.out.later' x.below).other (p := ⟨w.heap.size + 1, p, none⟩) (by simp) (.int .u64 (ff p * 256 + di)))
        have N2 := Lib.hid ((HA2.out.later' x.below).set (k := p) (by omega) (ff p * 256 + di))
        have N3 := Lib.hid ((HX.out.later x.below).other (p := ⟨w.heap.size + 1, p, none⟩) hgw (.int .u64 (ff p * 256 + di)))
        have N4 := Lib.hid ((HB.out.trans (x.below.mono HB.out.size)).setCell (p := ⟨w.heap.size + 1, p, none⟩) (by simp) (.int .u64 (ff p * 256 + di)))
        go_wp2
        rw [calmPost_normal]
        go_wp2
        go_roundw
        case rel => exact ⟨(i : Int) - 1, i, by simp, by have := HI.out; omega, rfl, N1.out, by rw [hst.out]; exact N2.out, N3.out, N4.out⟩
        case measure => first | (simp [intOf]; done) | (simp [intOf]; omega)
      · obtain rfl : k = 0 := by omega
        obtain rfl : z = -1 := by omega
        have HA1 := Lib.hid a1
        have HB := Lib.hid hB
        have c0 := a2.cell (j := 0) (by omega)
        have c1 := a2.cell (j := 1) (by omega)
        have c2 := a2.cell (j := 2) (by omega)
        have c3 := a2.cell (j := 3) (by omega)
        have f0 := a1.frozen 0
        have f1 := a1.frozen 1
        have f2 := a1.frozen 2
        have f3 := a1.frozen 3
        have d0 := a1.cell (j := 0) (by omega)
        have d1 := a1.cell (j := 1) (by omega)
        have d2 := a1.cell (j := 2) (by omega)
        have d3 := a1.cell (j := 3) (by omega)
        clear hk hz hk0 a1 a2 xx hB
        go_wp2
        refine bodyPost_ret (results_word rfl rfl (HA1.out.store _)) rfl ⟨rfl, ?_⟩
        exact (((HB.out.setCell (p := ⟨w.heap.size, 0, none⟩) (by simp) _).setCell (p := ⟨w.heap.size, 1, none⟩) (by simp) _).setCell (p := ⟨w.heap.size, 2, none⟩) (by simp) _).setCell (p := ⟨w.heap.size, 3, none⟩) (by simp) _
  case neg =>
    have z1 : (32 : Int) < (n : Int) := by omega
    have z2 : (32 : Int) ≤ (n : Int) := by omega
    have z3 : ¬ (n : Int) ≤ 32 := by omega
    have z4 : ¬ (n : Int) < 32 := by omega
    have z5 : (n : Int) ≤ 140737488355328 := by omega
    obtain rfl : m = 32 := by omega
    clear hle hm32 hmn hn hm
    go_wp2
    obtain ⟨W0, hW0⟩ : ∃ W0, (w.alloc (.cells #[.int .u64 0, .int .u64 0, .int .u64 0, .int .u64 0] 24)).alloc (.cells #[.int .u64 0, .int .u64 0, .int .u64 0, .int .u64 0] 24) = W0 := ⟨_, rfl⟩
    rw [hW0] at A1 A2 X0 B0 s0 ⊢
    clear hW0
    go_loopw [4] (fun i wr => ∃ (z : Int) (k : Nat), i = .int .i64 z ∧ k ≤ 32 ∧ z = (k : Int) - 1 ∧ Arr4 wr w.heap.size 24 (fun _ => 0) ∧ Arr4 wr (w.heap.size + 1) 24 (fdAt d k) ∧ IntsAt wr g n d ∧ Below w.heap.size w wr) (fun i _ => (intOf i + 1).toNat)
    case atStart =>
      refine ⟨_, 32, rfl, by omega, by omega, A1, ?_, X0, B0⟩
      have hs := fdAt_start d n HZ.out
      rw [← HM.out] at hs
      exact A2.same4 (hs 0 (by omega)).symm (hs 1 (by omega)).symm (hs 2 (by omega)).symm (hs 3 (by omega)).symm
    case round =>
      obtain ⟨z, k, rfl, hk, hz, a1, a2, xx, hB⟩ := hrel
      clear A1 A2 X0 B0 s0
      by_cases hk0 : 0 < k
      · obtain ⟨i, rfl⟩ : ∃ i, k = i + 1 := ⟨k - 1, by omega⟩
        obtain rfl : z = (i : Int) := by omega
        have hiM : i < 32 := by omega
        have hi32 : i < 32 := by have := HM.out; omega
        have hiN : i < n := by have := HM.out; omega
        obtain ⟨p, hp⟩ : ∃ p, p = i / 8 := ⟨_, rfl⟩
        have hp4 : p < 4 := by omega
        have hq : ((i : Int).tdiv 8) = (p : Int) := by rw [Int.tdiv_eq_ediv_of_nonneg (by omega)]; omega
        have hst := Lib.hid (fdAt_step d i p hp)
        obtain ⟨hr0, hr1⟩ := fdAt_room d HD.out i p hp
        obtain ⟨hd0, hd1⟩ := HD.out i
        have cp := a2.cell hp4
        have fp := a2.frozen p
        have cd := xx.cell hiN
        have hi0 : (0 : Int) ≤ (i : Int) := by omega
        have hiI : (i : Int) < (n : Int) := by omega
        have hi31 : (i : Int) < 32 := by omega
        have hp0 : (0 : Int) ≤ (p : Int) := by omega
        have hpI : (p : Int) < 4 := by omega
        have HA1 := Lib.hid a1
        have HA2 := Lib.hid a2
        have HX := Lib.hid xx
        have HB := Lib.hid hB
        have HI := Lib.hid hiM
        have hmx : Tryd.prog.follows .mixedOrders = true := by kernel_rfl
        have hgw : g ≠ w.heap.size + 1 := by omega
        clear hk hz hk0 a1 a2 xx hB hiM hi32 hiN hp hp4
        generalize fdAt d (i + 1) = ff at *
        generalize d i = di at *
        have ecp : ∀ x : Ext wr, x.w.cell? ⟨w.heap.size + 1, p, none⟩ = some (.int .u64 (ff p)) := fun x => (x.cell (p := ⟨_, p, none⟩) HA2.out.lt).trans cp
        have efp : ∀ x : Ext wr, x.w.frozen? ⟨w.heap.size + 1, p, none⟩ = false := fun x => (x.frozen (p := ⟨_, p, none⟩) HA2.out.lt).trans fp
        have ecd : ∀ x : Ext wr, x.w.cell? ⟨g, i, none⟩ = some (.int .i64 di) := fun x => (x.cell (p := ⟨g, i, none⟩) HX.out.lt).trans cd
        clear cp fp cd
        go_wp2
        refine wp_region_mix (C := Grows wr) [some true, some true, some true, some true, some true, some true, some true, some true, some true, some true, some true, some true, some true, some true, none] hmx (by kernel_rfl) (by kernel_rfl) (grows_refl wr) ?_
        simp only [headOf, tailOf]
        repeat (go_big_quiet_step (fail))
        refine wpQuiet_nil ?_
        rintro _ ⟨x, rfl⟩
        have N1 := Lib.hid ((HA1.out.later' x.below).other (p := ⟨w.heap.size + 1, p, none⟩) (by simp) (.int .u64 (ff p * 256 + di)))
        have N2 := Lib.hid ((HA2.out.later' x.below).set (k := p) (by omega) (ff p * 256 + di))
        have N3 := Lib.hid ((HX.out.later x.below).other (p := ⟨w.heap.size + 1, p, none⟩) hgw (.int .u64 (ff p * 256 + di)))
        have N4 := Lib.hid ((HB.out.trans (x.below.mono HB.out.size)).setCell (p := ⟨w.heap.size + 1, p, none⟩) (by simp) (.int .u64 (ff p * 256 + di)))
        go_wp2
        rw [calmPost_normal]
        go_wp2
        go_roundw
        case rel => exact ⟨(i : Int) - 1, i, by simp, by have := HI.out; omega, rfl, N1.out, by rw [hst.out]; exact N2.out, N3.out, N4.out⟩
        case measure => first | (simp [intOf]; done) | (simp [intOf]; omega)
      · obtain rfl : k = 0 := by omega
        obtain rfl : z = -1 := by omega
        have HA1 := Lib.hid a1
        have HB := Lib.hid hB
        have c0 := a2.cell (j := 0) (by omega)
        have c1 := a2.cell (j := 1) (by omega)
        have c2 := a2.cell (j := 2) (by omega)
        have c3 := a2.cell (j := 3) (by omega)
        have f0 := a1.frozen 0
        have f1 := a1.frozen 1
        have f2 := a1.frozen 2
        have f3 := a1.frozen 3
        have d0 := a1.cell (j := 0) (by omega)
        have d1 := a1.cell (j := 1) (by omega)
        have d2 := a1.cell (j := 2) (by omega)
        have d3 := a1.cell (j := 3) (by omega)
        clear hk hz hk0 a1 a2 xx hB
        go_wp2
        refine bodyPost_ret (results_word rfl rfl (HA1.out.store _)) rfl ⟨rfl, ?_⟩
        exact (((HB.out.setCell (p := ⟨w.heap.size, 0, none⟩) (by simp) _).setCell (p := ⟨w.heap.size, 1, none⟩) (by simp) _).setCell (p := ⟨w.heap.size, 2, none⟩) (by simp) _).setCell (p := ⟨w.heap.size, 3, none⟩) (by simp) _

/-! ### Carried -/
def carV (d : Nat → Int) (n : Nat) : List Value := (List.range n).map fun j => Value.int .i64 (rD d j)
theorem carV_succ (d : Nat → Int) (n : Nat) : carV d (n + 1) = carV d n ++ [.int .i64 (rD d n)] := by simp [carV, List.range_succ]

set_option maxRecDepth 100000 in
set_option maxHeartbeats 2000000 in
theorem carried_any (d : Nat → Int) (hd : ∀ j, -4194304 ≤ d j ∧ d j ≤ 4194304) (g cap : Nat) (w : World) (hx : IntsAt w g 32 d) :
    Calls Tryd.prog 43 #[.slice (some ⟨g, 0, none⟩) 32 cap] w fun e w' => ∃ g' cap', e = .returned (.slice (some ⟨g', 0, none⟩) 32 cap') ∧ w.heap.size ≤ g' ∧ IntsAt w' g' 32 (rD d) ∧ Below w.heap.size w w' := by
  have hgl := hx.lt
  have HD := Lib.hid hd
  have R0 := World.ownsRow_nil w w.heap.size 3 1
  have B0 := Below.refl w.heap.size w
  clear hd
  go_enter Tryd.func43, Tryd.ntmps43
  go_wp2
  go_loopw [3, 4, 5] (fun t c i wr => ∃ k : Nat, k ≤ 32 ∧ i = .int .i64 (k : Int) ∧ c = .int .i64 (cyD d k) ∧ IntsAt wr g 32 d ∧ wr.ownsRow w.heap.size 3 1 t k (carV d k) ∧ Below w.heap.size w wr) (fun _ _ i _ => 32 - (intOf i).toNat)
  case atStart => exact ⟨0, by omega, rfl, rfl, hx, R0, B0⟩
  case round =>
    obtain ⟨k, hk, rfl, rfl, xx, hown, hB⟩ := hrel
    clear hx R0 B0
    by_cases hlt : k < 32
    · have hkI : (k : Int) < 32 := by omega
      have hk0 : (0 : Int) ≤ (k : Int) := by omega
      have cd := xx.cell hlt
      obtain ⟨d0, d1⟩ := HD.out k
      obtain ⟨c0, c1⟩ := cyD_bound d HD.out k
      have hs : cyD d (k + 1) = (d k + cyD d k) / 256 := rfl
      have hr : rD d k = (d k + cyD d k) % 256 := rfl
      have HS := Lib.hid hs
      have HV := Lib.hid (carV_succ d k)
      have HR := Lib.hid hr
      have HK := Lib.hid hlt
      have HX := Lib.hid xx
      have HO := Lib.hid hown
      have HB := Lib.hid hB
      have hsz := hB.size
      obtain ⟨i0, hi, hz0, hz1, hz2⟩ := info_parts infoI
      clear hk hlt xx hown hB hs
      generalize d k = y at *
      generalize cyD d k = c at *
      generalize hrr : rD d k = r at *
      have r0 : 0 ≤ r := by omega
      have r1 : r < 256 := by omega
      have e3 : (y + c - r).tdiv 256 = (y + c) / 256 := by
        rw [Int.tdiv_eq_ediv_of_dvd (by omega)]
        omega
      by_cases hneg : (y + c).tmod 256 < 0
      · have e1 : (y + c).tmod 256 + 256 = r := by
          have h1 := Int.tmod_def (y + c) 256
          have h2 := Int.mul_tdiv_add_tmod (y + c) 256
          have h3 := Int.lt_tmod_of_pos (y + c) (show (0 : Int) < 256 by decide)
          omega
        have e2 : -256 < (y + c).tmod 256 := Int.lt_tmod_of_pos _ (by decide)
        obtain ⟨t, ht⟩ : ∃ t, (y + c).tmod 256 = t := ⟨_, rfl⟩
        rw [ht] at e1 e2 hneg
        clear hr
        go_wp2_with (at_builtin; refine wpList_append_own _ rfl _ _ 36 rfl w.heap.size 3 i0 (.int .i64 0) 1 8 Tryd.underlying36 hi hz0 hz1 hz2 rfl (by decide) _ _ _ rfl (HO.out.alloc _) ⟨wr.heap.size, 0, none⟩ 1 1 [.int .i64 r] rfl rfl (cell_one _ _ _) (by simp [Value.oneCell']) (by unfold maxLen; omega) (by omega) (by simp; omega) ?_; intro v' w3 hown' hgrow hnil)
        clear hi hz0 hz1 hz2
        go_wp2
        go_roundw
        case rel =>
          refine ⟨k + 1, HK.out, by simp, by rw [HS.out], ?_, ?_, ?_⟩
          · exact (HX.out.alloc _).kept hgrow (fun e => by have := (HO.out.alloc (.cells #[.int .i64 r] 3)).lt _ e.symm; omega)
          · rw [HV.out]; exact hown'
          · exact (HB.out.alloc (by omega) _).grown hgrow (by simp; omega) (fun j e => (HO.out.alloc (.cells #[.int .i64 r] 3)).lt j e |>.1)
        case measure => have := HK.out; simp [intOf]; omega
      · have hnn : 0 ≤ (y + c).tmod 256 := by omega
        have e1 : (y + c).tmod 256 = r := by
          have h2 := Int.mul_tdiv_add_tmod (y + c) 256
          have h3 := Int.tmod_lt_of_pos (y + c) (show (0 : Int) < 256 by decide)
          omega
        have hneg' : ¬ r < 0 := by omega
        clear hr hneg hnn
        go_wp2_with (at_builtin; refine wpList_append_own _ rfl _ _ 36 rfl w.heap.size 3 i0 (.int .i64 0) 1 8 Tryd.underlying36 hi hz0 hz1 hz2 rfl (by decide) _ _ _ rfl (HO.out.alloc _) ⟨wr.heap.size, 0, none⟩ 1 1 [.int .i64 r] rfl rfl (cell_one _ _ _) (by simp [Value.oneCell']) (by unfold maxLen; omega) (by omega) (by simp; omega) ?_; intro v' w3 hown' hgrow hnil)
        clear hi hz0 hz1 hz2
        go_wp2
        go_roundw
        case rel =>
          refine ⟨k + 1, HK.out, by simp, by rw [HS.out], ?_, ?_, ?_⟩
          · exact (HX.out.alloc _).kept hgrow (fun e => by have := (HO.out.alloc (.cells #[.int .i64 r] 3)).lt _ e.symm; omega)
          · rw [HV.out]; exact hown'
          · exact (HB.out.alloc (by omega) _).grown hgrow (by simp; omega) (fun j e => (HO.out.alloc (.cells #[.int .i64 r] 3)).lt j e |>.1)
        case measure => have := HK.out; simp [intOf]; omega
    · obtain rfl : k = 32 := by omega
      obtain ⟨g', cap', rfl⟩ := ownsRow_succ (k := 31) hown
      have hx := IntsAt.of_row (d := rD d) hown (fun j hj => by simp [carV, hj])
      have HX := Lib.hid hx
      have HB := Lib.hid hB
      clear hk hlt hown xx hB hx
      go_wp2
      go_ret
      exact ⟨g', cap', rfl, HX.out.1, HX.out.2, HB.out⟩
end Go.Proofs.YtnjmhcooejcehaaDoor
