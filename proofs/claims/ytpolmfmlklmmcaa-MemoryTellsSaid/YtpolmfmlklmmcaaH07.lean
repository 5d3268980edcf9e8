/- Part. -/
import Derived.Test.YtpolmfmlklmmcaaH06
import Derived.Deep.OwnRows
import Derived.Test.YtpolmfmlklmmcaaH04
import Derived.Laws.MakeOwn
import Derived.Laws.AppendOwn
import Derived.OwnWalk
import Derived.WalkSmall
set_option maxRecDepth 100000
set_option maxHeartbeats 16000000
namespace Go.Proofs.Ytpolmfmlklmmcaa
section
open Go Go.RowKit Go.Shelf
attribute [local go_sem] Oper.semAt_some Grows wide_fn
theorem fromDigits_any (d : Nat → Int) (hd : ∀ j, 0 ≤ d j ∧ d j < 256) (n g cap : Nat) (hn : n ≤ 140737488355328) (hz : ∀ j, n ≤ j → d j = 0) (w : World) (hx : IntsAt w g n d) :
  Calls Try.prog 58 #[.slice (some ⟨g, 0, none⟩) n cap] w fun e w' => e = .returned (wv (valI d 32).toNat) ∧ Below w.heap.size w w' := by
 rw [wv_of (fd_parts d hd)]
 have hgl := hx.lt
 have A1 := (Arr4.mk0' w 24).alloc (.cells #[.int .u64 0, .int .u64 0, .int .u64 0, .int .u64 0] 24)
 have A2 := Arr4.mk0' (w.alloc (.cells #[.int .u64 0, .int .u64 0, .int .u64 0, .int .u64 0] 24)) 24
 have X0 := (hx.alloc (.cells #[.int .u64 0, .int .u64 0, .int .u64 0, .int .u64 0] 24)).alloc (.cells #[.int .u64 0, .int .u64 0, .int .u64 0, .int .u64 0] 24)
 have B0 := ((Below.refl _ w).alloc (Nat.le_refl _) (.cells #[.int .u64 0, .int .u64 0, .int .u64 0, .int .u64 0] 24)).alloc (by simp) (.cells #[.int .u64 0, .int .u64 0, .int .u64 0, .int .u64 0] 24)
 have s0 : w.heap.size + 2 ≤ ((w.alloc (.cells #[.int .u64 0, .int .u64 0, .int .u64 0, .int .u64 0] 24)).alloc (.cells #[.int .u64 0, .int .u64 0, .int .u64 0, .int .u64 0] 24)).heap.size := by simp
 rw [World.size_alloc] at A2
 have HZ := Lib.hid hz
 have HD := Lib.hid hd
 clear hx hz hd
 obtain ⟨m, hm⟩ : ∃ m, m = min n 32 := ⟨_, rfl⟩
 have hm32 : m ≤ 32 := by omega
 have hmn : m ≤ n := by omega
 have HM := Lib.hid hm
 go_enter Try.func58, Try.ntmps58
 by_cases hle : n ≤ 32
 case pos =>
  obtain rfl : m = n := by omega
  have z1 : (m : Int) ≤ 32 := by omega
  have z0 : (0 : Int) ≤ (m : Int) := by omega
  clear hle hm32 hmn hn hm
  go_wp2
  obtain ⟨W0, hW0⟩ : ∃ W0, (w.alloc (.cells #[.int .u64 0, .int .u64 0, .int .u64 0, .int .u64 0] 24)).alloc (.cells #[.int .u64 0, .int .u64 0, .int .u64 0, .int .u64 0] 24) = W0 := ⟨_, rfl⟩
  rw [hW0] at A1 A2 X0 B0 s0 ⊢
  clear hW0
  go_loopw [4] (fun i wr => ∃ (z : Int) (k : Nat), i = .int .i64 z ∧ k ≤ m ∧ z = (k : Int) - 1 ∧ Arr4 wr w.heap.size 24 (fun _ => 0) ∧ Arr4 wr (w.heap.size + 1) 24 (fdAt d k) ∧ IntsAt wr g m d ∧ Below w.heap.size w wr) (fun i _ => (intOf i + 1).toNat)
  case atStart =>
   refine ⟨_, m, rfl, by omega, by omega, A1, ?_, X0, B0⟩
   have hs := fdAt_start d m HZ.out
   rw [← HM.out] at hs
   exact A2.same4 (hs 0 (by omega)).symm (hs 1 (by omega)).symm (hs 2 (by omega)).symm (hs 3 (by omega)).symm
  case round =>
   obtain ⟨z, k, rfl, hk, hz, a1, a2, xx, hB⟩ := hrel
   clear A1 A2 X0 B0 s0
   by_cases hk0 : 0 < k
   ·obtain ⟨i, rfl⟩ : ∃ i, k = i + 1 := ⟨k - 1, by omega⟩
    obtain rfl : z = (i : Int) := by omega
    have hiM : i < m := by omega
    have hi32 : i < 32 := by have := HM.out; omega
    have hiN : i < m := by have := HM.out; omega
    obtain ⟨p, hp⟩ : ∃ p, p = i / 8 := ⟨_, rfl⟩
    have hp4 : p < 4 := by omega
    have hq : ((i : Int).tdiv 8) = (p : Int) := by rw [Int.tdiv_eq_ediv_of_nonneg (by omega)]; omega
    have hst := Lib.hid (fdAt_step d i p hp)
    obtain ⟨hr0, hr1⟩ := fdAt_room d HD.out i p hp
    obtain ⟨hd0, hd1⟩ := HD.out i
    have cp := a2.cell hp4
    have fp := a2.frozen p
    have cd := xx.cell hiN
    have hi0 : (0 : Int) ≤ (i : Int) := by omega
    have hiI : (i : Int) < (m : Int) := by omega
    have hi31 : (i : Int) < 32 := by omega
    have hp0 : (0 : Int) ≤ (p : Int) := by omega
    have hpI : (p : Int) < 4 := by omega
    have HA1 := Lib.hid a1
    have HA2 := Lib.hid a2
    have HX := Lib.hid xx
    have HB := Lib.hid hB
    have HI := Lib.hid hiM
    have hmx : Try.prog.follows .mixedOrders = true := by kernel_rfl
    have hgw : g ≠ w.heap.size + 1 := by omega
    clear hk hz hk0 a1 a2 xx hB hiM hi32 hiN hp hp4
    generalize fdAt d (i + 1) = ff at *
    generalize d i = di at *
    have ecp : ∀ x : Ext wr, x.w.cell? ⟨w.heap.size + 1, p, none⟩ = some (.int .u64 (ff p)) := fun x => (x.cell (p := ⟨_, p, none⟩) HA2.out.lt).trans cp
    have efp : ∀ x : Ext wr, x.w.frozen? ⟨w.heap.size + 1, p, none⟩ = false := fun x => (x.frozen (p := ⟨_, p, none⟩) HA2.out.lt).trans fp
    have ecd : ∀ x : Ext wr, x.w.cell? ⟨g, i, none⟩ = some (.int .i64 di) := fun x => (x.cell (p := ⟨g, i, none⟩) HX.out.lt).trans cd
    clear cp fp cd
    go_wp2
    refine wp_region_mix (C := Grows wr) [some true, some true, some true, some true, some true, some true, some true, some true, some true, some true, some true, some true, some true, some true, none] hmx (by kernel_rfl) (by kernel_rfl) (grows_refl wr) ?_
    simp only [headOf, tailOf]
    repeat (go_big_quiet_step (fail))
    refine wpQuiet_nil ?_
    rintro _ ⟨x, rfl⟩
    have N1 := Lib.hid ((HA1.out.later' x.below).other (p := ⟨w.heap.size + 1, p, none⟩) (by simp) (.int .u64 (ff p * 256 + di)))
    have N2 := Lib.hid ((HA2.out.later' x.below).set (k := p) (by omega) (ff p * 256 + di))
    have N3 := Lib.hid ((HX.out.later x.below).other (p := ⟨w.heap.size + 1, p, none⟩) hgw (.int .u64 (ff p * 256 + di)))
    have N4 := Lib.hid ((HB.out.trans (x.below.mono HB.out.size)).setCell (p := ⟨w.heap.size + 1, p, none⟩) (by simp) (.int .u64 (ff p * 256 + di)))
    go_wp2
    rw [calmPost_normal]
    go_wp2
    go_roundw
    case rel => exact ⟨(i : Int) - 1, i, by simp, by have := HI.out; omega, rfl, N1.out, by rw [hst.out]; exact N2.out, N3.out, N4.out⟩
    case measure => first | (simp [intOf]; done) | (simp [intOf]; omega)
   ·obtain rfl : k = 0 := by omega
    obtain rfl : z = -1 := by omega
    have HA1 := Lib.hid a1
    have HB := Lib.hid hB
    have c0 := a2.cell (j := 0) (by omega)
    have c1 := a2.cell (j := 1) (by omega)
    have c2 := a2.cell (j := 2) (by omega)
    have c3 := a2.cell (j := 3) (by omega)
    have f0 := a1.frozen 0
    have f1 := a1.frozen 1
    have f2 := a1.frozen 2
    have f3 := a1.frozen 3
    have d0 := a1.cell (j := 0) (by omega)
    have d1 := a1.cell (j := 1) (by omega)
    have d2 := a1.cell (j := 2) (by omega)
    have d3 := a1.cell (j := 3) (by omega)
    clear hk hz hk0 a1 a2 xx hB
    go_wp2
    refine bodyPost_ret (results_word rfl rfl (HA1.out.store _)) rfl ⟨rfl, ?_⟩
    exact (((HB.out.setCell (p := ⟨w.heap.size, 0, none⟩) (by simp) _).setCell (p := ⟨w.heap.size, 1, none⟩) (by simp) _).setCell (p := ⟨w.heap.size, 2, none⟩) (by simp) _).setCell (p := ⟨w.heap.size, 3, none⟩) (by simp) _
 case neg =>
  have z1 : (32 : Int) < (n : Int) := by omega
  have z2 : (32 : Int) ≤ (n : Int) := by omega
  have z3 : ¬ (n : Int) ≤ 32 := by omega
  have z4 : ¬ (n : Int) < 32 := by omega
  have z5 : (n : Int) ≤ 140737488355328 := by omega
  obtain rfl : m = 32 := by omega
  clear hle hm32 hmn hn hm
  go_wp2
  obtain ⟨W0, hW0⟩ : ∃ W0, (w.alloc (.cells #[.int .u64 0, .int .u64 0, .int .u64 0, .int .u64 0] 24)).alloc (.cells #[.int .u64 0, .int .u64 0, .int .u64 0, .int .u64 0] 24) = W0 := ⟨_, rfl⟩
  rw [hW0] at A1 A2 X0 B0 s0 ⊢
  clear hW0
  go_loopw [4] (fun i wr => ∃ (z : Int) (k : Nat), i = .int .i64 z ∧ k ≤ 32 ∧ z = (k : Int) - 1 ∧ Arr4 wr w.heap.size 24 (fun _ => 0) ∧ Arr4 wr (w.heap.size + 1) 24 (fdAt d k) ∧ IntsAt wr g n d ∧ Below w.heap.size w wr) (fun i _ => (intOf i + 1).toNat)
  case atStart =>
   refine ⟨_, 32, rfl, by omega, by omega, A1, ?_, X0, B0⟩
   have hs := fdAt_start d n HZ.out
   rw [← HM.out] at hs
   exact A2.same4 (hs 0 (by omega)).symm (hs 1 (by omega)).symm (hs 2 (by omega)).symm (hs 3 (by omega)).symm
  case round =>
   obtain ⟨z, k, rfl, hk, hz, a1, a2, xx, hB⟩ := hrel
   clear A1 A2 X0 B0 s0
   by_cases hk0 : 0 < k
   ·obtain ⟨i, rfl⟩ : ∃ i, k = i + 1 := ⟨k - 1, by omega⟩
    obtain rfl : z = (i : Int) := by omega
    have hiM : i < 32 := by omega
    have hi32 : i < 32 := by have := HM.out; omega
    have hiN : i < n := by have := HM.out; omega
    obtain ⟨p, hp⟩ : ∃ p, p = i / 8 := ⟨_, rfl⟩
    have hp4 : p < 4 := by omega
    have hq : ((i : Int).tdiv 8) = (p : Int) := by rw [Int.tdiv_eq_ediv_of_nonneg (by omega)]; omega
    have hst := Lib.hid (fdAt_step d i p hp)
    obtain ⟨hr0, hr1⟩ := fdAt_room d HD.out i p hp
    obtain ⟨hd0, hd1⟩ := HD.out i
    have cp := a2.cell hp4
    have fp := a2.frozen p
    have cd := xx.cell hiN
    have hi0 : (0 : Int) ≤ (i : Int) := by omega
    have hiI : (i : Int) < (n : Int) := by omega
    have hi31 : (i : Int) < 32 := by omega
    have hp0 : (0 : Int) ≤ (p : Int) := by omega
    have hpI : (p : Int) < 4 := by omega
    have HA1 := Lib.hid a1
    have HA2 := Lib.hid a2
    have HX := Lib.hid xx
    have HB := Lib.hid hB
    have HI := Lib.hid hiM
    have hmx : Try.prog.follows .mixedOrders = true := by kernel_rfl
    have hgw : g ≠ w.heap.size + 1 := by omega
    clear hk hz hk0 a1 a2 xx hB hiM hi32 hiN hp hp4
    generalize fdAt d (i + 1) = ff at *
    generalize d i = di at *
    have ecp : ∀ x : Ext wr, x.w.cell? ⟨w.heap.size + 1, p, none⟩ = some (.int .u64 (ff p)) := fun x => (x.cell (p := ⟨_, p, none⟩) HA2.out.lt).trans cp
    have efp : ∀ x : Ext wr, x.w.frozen? ⟨w.heap.size + 1, p, none⟩ = false := fun x => (x.frozen (p := ⟨_, p, none⟩) HA2.out.lt).trans fp
    have ecd : ∀ x : Ext wr, x.w.cell? ⟨g, i, none⟩ = some (.int .i64 di) := fun x => (x.cell (p := ⟨g, i, none⟩) HX.out.lt).trans cd
    clear cp fp cd
    go_wp2
    refine wp_region_mix (C := Grows wr) [some true, some true, some true, some true, some true, some true, some true, some true, some true, some true, some true, some true, some true, some true, none] hmx (by kernel_rfl) (by kernel_rfl) (grows_refl wr) ?_
    simp only [headOf, tailOf]
    repeat (go_big_quiet_step (fail))
    refine wpQuiet_nil ?_
    rintro _ ⟨x, rfl⟩
    have N1 := Lib.hid ((HA1.out.later' x.below).other (p := ⟨w.heap.size + 1, p, none⟩) (by simp) (.int .u64 (ff p * 256 + di)))
    have N2 := Lib.hid ((HA2.out.later' x.below).set (k := p) (by omega) (ff p * 256 + di))
    have N3 := Lib.hid ((HX.out.later x.below).other (p := ⟨w.heap.size + 1, p, none⟩) hgw (.int .u64 (ff p * 256 + di)))
    have N4 := Lib.hid ((HB.out.trans (x.below.mono HB.out.size)).setCell (p := ⟨w.heap.size + 1, p, none⟩) (by simp) (.int .u64 (ff p * 256 + di)))
    go_wp2
    rw [calmPost_normal]
    go_wp2
    go_roundw
    case rel => exact ⟨(i : Int) - 1, i, by simp, by have := HI.out; omega, rfl, N1.out, by rw [hst.out]; exact N2.out, N3.out, N4.out⟩
    case measure => first | (simp [intOf]; done) | (simp [intOf]; omega)
   ·obtain rfl : k = 0 := by omega
    obtain rfl : z = -1 := by omega
    have HA1 := Lib.hid a1
    have HB := Lib.hid hB
    have c0 := a2.cell (j := 0) (by omega)
    have c1 := a2.cell (j := 1) (by omega)
    have c2 := a2.cell (j := 2) (by omega)
    have c3 := a2.cell (j := 3) (by omega)
    have f0 := a1.frozen 0
    have f1 := a1.frozen 1
    have f2 := a1.frozen 2
    have f3 := a1.frozen 3
    have d0 := a1.cell (j := 0) (by omega)
    have d1 := a1.cell (j := 1) (by omega)
    have d2 := a1.cell (j := 2) (by omega)
    have d3 := a1.cell (j := 3) (by omega)
    clear hk hz hk0 a1 a2 xx hB
    go_wp2
    refine bodyPost_ret (results_word rfl rfl (HA1.out.store _)) rfl ⟨rfl, ?_⟩
    exact (((HB.out.setCell (p := ⟨w.heap.size, 0, none⟩) (by simp) _).setCell (p := ⟨w.heap.size, 1, none⟩) (by simp) _).setCell (p := ⟨w.heap.size, 2, none⟩) (by simp) _).setCell (p := ⟨w.heap.size, 3, none⟩) (by simp) _
theorem refOf_ret (n : Int) (h : I64 n) : Ret Try.prog 12 #[.int .i64 n] (wv (ofN n)) := by
 intro w
 have hI := h
 unfold I64 at h
 by_cases hn : n < 0
 ·rw [wv_of (of_neg n hI hn)]
  have hw : IntKind.u64.wrap n = 18446744073709551616 + n := by rw [IntKind.wrap_u64]; omega
  have h1 : -9223372036854775808 ≤ n := h.1
  obtain ⟨x, hx⟩ : ∃ x, x = 18446744073709551616 + n := ⟨_, rfl⟩
  rw [← hx] at hw ⊢
  have hx0 : 0 ≤ x := by omega
  have hx1 : x < 18446744073709551616 := by omega
  clear h hI hx
  go_enter Try.func12, Try.ntmps12
  go_wp2
  have A1 := (Arr4.mk0' w 24).alloc (.cells #[.int .u64 x, .int .u64 0, .int .u64 0, .int .u64 0] 24)
  have A2 := Arr4.new (w.alloc (.cells #[.int .u64 0, .int .u64 0, .int .u64 0, .int .u64 0] 24)) 24 x 0 0 0
  have B0 := ((Below.refl _ w).alloc (Nat.le_refl _) (.cells #[.int .u64 0, .int .u64 0, .int .u64 0, .int .u64 0] 24)).alloc (by simp) (.cells #[.int .u64 x, .int .u64 0, .int .u64 0, .int .u64 0] 24)
  rw [World.size_alloc] at A2
  obtain ⟨W0, hW0⟩ : ∃ W0, (w.alloc (.cells #[.int .u64 0, .int .u64 0, .int .u64 0, .int .u64 0] 24)).alloc (.cells #[.int .u64 x, .int .u64 0, .int .u64 0, .int .u64 0] 24) = W0 := ⟨_, rfl⟩
  rw [hW0] at A1 A2 B0 ⊢
  clear hW0
  go_loopw [4] (fun i wr => ∃ k : Nat, 1 ≤ k ∧ k ≤ 4 ∧ i = .int .i64 (k : Int) ∧ Arr4 wr w.heap.size 24 (fun _ => 0) ∧ Arr4 wr (w.heap.size + 1) 24 (fun j => if j = 0 then x else if j < k then 18446744073709551615 else 0) ∧ Below w.heap.size w wr) (fun i _ => 4 - (intOf i).toNat)
  case atStart => exact ⟨1, by omega, by omega, rfl, A1, A2.same4 rfl rfl rfl rfl, B0⟩
  case round =>
   obtain ⟨k, hk1, hk, rfl, a1, a2, hB⟩ := hrel
   clear A1 A2 B0
   by_cases hlt : k < 4
   ·have hkI : (k : Int) < 4 := by omega
    have hk0 : (0 : Int) ≤ (k : Int) := by omega
    have fp := a2.frozen k
    have cp := a2.cell hlt
    have N1 := Lib.hid (a1.other (p := ⟨w.heap.size + 1, k, none⟩) (by simp) (.int .u64 18446744073709551615))
    have N2 := Lib.hid (a2.set hlt 18446744073709551615)
    have N3 := Lib.hid (hB.setCell (p := ⟨w.heap.size + 1, k, none⟩) (by simp) (.int .u64 18446744073709551615))
    have HK := Lib.hid (And.intro hk1 hlt)
    clear hk1 hk hlt a1 a2 hB
    go_wp2
    go_roundw
    case rel =>
     have hk := HK.out
     refine ⟨k + 1, by omega, by omega, by simp, N1.out, ?_, N3.out⟩
     have e : (fun j => if j = 0 then x else if j < k + 1 then (18446744073709551615 : Int) else 0) = (fun j => if j = k then 18446744073709551615 else if j = 0 then x else if j < k then 18446744073709551615 else 0) := by
      funext j
      by_cases e1 : j = k
      ·rw [if_pos e1, if_neg (by omega), if_pos (by omega)]
      ·rw [if_neg e1]
       by_cases e2 : j = 0
       ·rw [if_pos e2, if_pos e2]
       ·rw [if_neg e2, if_neg e2]
        by_cases e3 : j < k
        ·rw [if_pos e3, if_pos (by omega)]
        ·rw [if_neg e3, if_neg (by omega)]
     rw [e]
     exact N2.out
    case measure => have := HK.out; simp [intOf]; omega
   ·obtain rfl : k = 4 := by omega
    have c0 : wr.cell? ⟨w.heap.size + 1, 0, none⟩ = some (.int .u64 x) := a2.cell (j := 0) (by omega)
    have c1 : wr.cell? ⟨w.heap.size + 1, 1, none⟩ = some (.int .u64 18446744073709551615) := a2.cell (j := 1) (by omega)
    have c2 : wr.cell? ⟨w.heap.size + 1, 2, none⟩ = some (.int .u64 18446744073709551615) := a2.cell (j := 2) (by omega)
    have c3 : wr.cell? ⟨w.heap.size + 1, 3, none⟩ = some (.int .u64 18446744073709551615) := a2.cell (j := 3) (by omega)
    have f0 := a1.frozen 0
    have f1 := a1.frozen 1
    have f2 := a1.frozen 2
    have f3 := a1.frozen 3
    have d0 := a1.cell (j := 0) (by omega)
    have d1 := a1.cell (j := 1) (by omega)
    have d2 := a1.cell (j := 2) (by omega)
    have d3 := a1.cell (j := 3) (by omega)
    have HA1 := Lib.hid a1
    have HB := Lib.hid hB
    clear hk1 hk hlt a1 a2 hB
    go_wp2
    refine bodyPost_ret (results_word rfl rfl (HA1.out.store (fun j => if j = 0 then x else 18446744073709551615))) rfl ⟨rfl, ?_⟩
    exact (((HB.out.setCell (p := ⟨w.heap.size, 0, none⟩) (by simp) _).setCell (p := ⟨w.heap.size, 1, none⟩) (by simp) _).setCell (p := ⟨w.heap.size, 2, none⟩) (by simp) _).setCell (p := ⟨w.heap.size, 3, none⟩) (by simp) _
 ·rw [wv_of (of_pos n hI hn)]
  have hn0 : 0 ≤ n := by omega
  have hn1 : n ≤ 9223372036854775807 := h.2
  have hw : IntKind.u64.wrap n = n := by rw [IntKind.wrap_u64]; omega
  have hn2 : n < 18446744073709551616 := by omega
  clear h hI
  go_enter Try.func12, Try.ntmps12
  go_wp2
  refine bodyPost_ret (results_word rfl rfl ((Arr4.new w 24 n 0 0 0).alloc (.cells #[.int .u64 n, .int .u64 0, .int .u64 0, .int .u64 0] 24))) rfl ⟨rfl, ?_⟩
  exact ((Below.refl _ w).alloc (Nat.le_refl _) _).alloc (by simp) _
end
section
open Go Go.RowKit
attribute [local go_sem] Oper.semAt_some Grows wide_fn eq4
theorem wv_nat (n : Nat) (h : n < 18446744073709551616) : wv n = .agg #[.int .u64 (n : Int), .int .u64 0, .int .u64 0, .int .u64 0] := by
 refine wv_of ⟨?_, ?_, ?_, ?_⟩
 ·show ((n % 18446744073709551616 : Nat) : Int) = _
  rw [Nat.mod_eq_of_lt h]
 ·show ((n / 18446744073709551616 % 18446744073709551616 : Nat) : Int) = _
  rw [Nat.div_eq_of_lt h]; rfl
 ·show ((n / 340282366920938463463374607431768211456 % 18446744073709551616 : Nat) : Int) = _
  rw [Nat.div_eq_of_lt (by omega)]; rfl
 ·show ((n / 6277101735386680763835789423207666416102355444464034512896 % 18446744073709551616 : Nat) : Int) = _
  rw [Nat.div_eq_of_lt (by omega)]; rfl
theorem ofR (n : Nat) (h : n ≤ 9223372036854775807) : Ret Try.prog 12 #[.int .i64 (n : Int)] (.agg #[.int .u64 (n : Int), .int .u64 0, .int .u64 0, .int .u64 0]) := by
 have h1 := refOf_ret (n : Int) (by unfold I64; omega)
 rw [ofN_nat, wv_nat n (by omega)] at h1
 exact h1
theorem needR (a n : Nat) (ha : a ≤ 9223372036854775807) (hn : n ≤ 9223372036854775807) : Ret Try.prog 13 #[.agg #[.int .u64 (a : Int), .int .u64 0, .int .u64 0, .int .u64 0], .agg #[.int .u64 (n : Int), .int .u64 0, .int .u64 0, .int .u64 0]] (needV a n) := by
 have h := need_ret a n (by unfold W256; omega) (by unfold W256; omega)
 rw [wv_nat a (by omega), wv_nat n (by omega)] at h
 exact h
theorem pieceR (s : ByteArray) (hs : s.size ≤ 70368744177664) (a : Nat) (ha : a ≤ 9223372036854775807) (n : Int) : Ret Try.prog 28 #[.string s, .agg #[.int .u64 (a : Int), .int .u64 0, .int .u64 0, .int .u64 0], .int .i64 n] (pieceV s a n) := by
 have h := piece_ret s hs a (by unfold W256; omega) n
 rw [wv_nat a (by omega)] at h
 exact h
theorem awake_walk (m n : ByteArray) (hl : (m.size : Int) = 32) (g1 : Ret Try.prog 16 #[.string ⟨#[]⟩, .int .i64 1] (.tuple #[.string m, .int .i64 0])) (o1 : Ret Try.prog 12 #[.int .i64 1] (.agg #[.int .u64 1, .int .u64 0, .int .u64 0, .int .u64 0])) (o2 : Ret Try.prog 12 #[.int .i64 2] (.agg #[.int .u64 2, .int .u64 0, .int .u64 0, .int .u64 0])) (o31 : Ret Try.prog 12 #[.int .i64 31] (.agg #[.int .u64 31, .int .u64 0, .int .u64 0, .int .u64 0])) (om : Ret Try.prog 12 #[.int .i64 1048576] (.agg #[.int .u64 1048576, .int .u64 0, .int .u64 0, .int .u64 0])) (st : Ret Try.prog 20 #[.string m, .int .i64 0, .agg #[.int .u64 1, .int .u64 0, .int .u64 0, .int .u64 0]] (.tuple #[.string n, .int .i64 0])) (sl : Ret Try.prog 26 #[.string n, .int .i64 31, .int .i64 1] (.tuple #[.string ⟨#[1]⟩, .int .i64 0])) (l0 : Ret Try.prog 18 #[.string n, .int .i64 0] (.tuple #[.agg #[.int .u64 1, .int .u64 0, .int .u64 0, .int .u64 0], .int .i64 0])) (l1 : Ret Try.prog 18 #[.string n, .int .i64 1] (.tuple #[.agg #[.int .u64 0, .int .u64 0, .int .u64 0, .int .u64 0], .int .i64 1])) (n1 : Ret Try.prog 13 #[.agg #[.int .u64 31, .int .u64 0, .int .u64 0, .int .u64 0], .agg #[.int .u64 2, .int .u64 0, .int .u64 0, .int .u64 0]] (.tuple #[.int .i64 2, .bool true])) (n2 : Ret Try.prog 13 #[.agg #[.int .u64 1048576, .int .u64 0, .int .u64 0, .int .u64 0], .agg #[.int .u64 1, .int .u64 0, .int .u64 0, .int .u64 0]] (.tuple #[.int .i64 0, .bool false])) (pc : Ret Try.prog 28 #[.string ⟨#[97, 98, 99]⟩, .agg #[.int .u64 2, .int .u64 0, .int .u64 0, .int .u64 0], .int .i64 3] (.tuple #[.string ⟨#[99, 0, 0]⟩, .int .i64 0])) (c1 : Ret Try.prog 9 #[.int .i64 1] (.int .i64 3)) (c2 : Ret Try.prog 9 #[.int .i64 1024] (.int .i64 5120)) :
  Ret Try.prog 8 #[] (.bool true) := by
 intro w
 have Hg1 := hid g1
 have Ho1 := hid o1
 have Ho2 := hid o2
 have Ho31 := hid o31
 have Hom := hid om
 have Hst := hid st
 have Hsl := hid sl
 have Hl0 := hid l0
 have Hl1 := hid l1
 have Hn1 := hid n1
 have Hn2 := hid n2
 have Hpc := hid pc
 have Hc1 := hid c1
 have Hc2 := hid c2
 clear g1 o1 o2 o31 om st sl l0 l1 n1 n2 pc c1 c2
 go_enter Try.func8, Try.ntmps8
 go_wp2_with fail
 refine (Hg1.out _).mono ?_
 rintro e v1 ⟨rfl, q⟩
 have Q := q
 clear q
 go_wp2_with fail
 refine (Ho1.out _).mono ?_
 rintro e v2 ⟨rfl, q⟩
 have Q := Q.trans (q.mono Q.size)
 clear q
 go_wp2_with fail
 refine (Hst.out _).mono ?_
 rintro e v3 ⟨rfl, q⟩
 have Q := Q.trans (q.mono Q.size)
 clear q
 go_wp2_with fail
 refine (Hsl.out _).mono ?_
 rintro e v4 ⟨rfl, q⟩
 have Q := Q.trans (q.mono Q.size)
 clear q
 go_wp2_with fail
 refine (Hl0.out _).mono ?_
 rintro e v5 ⟨rfl, q⟩
 have Q := Q.trans (q.mono Q.size)
 clear q
 have LW := Has.new v5 24 #[.int .u64 1, .int .u64 0, .int .u64 0, .int .u64 0]
 have k6 := LW.cell 0 _ rfl
 have k7 := LW.cell 1 _ rfl
 have k8 := LW.cell 2 _ rfl
 have k9 := LW.cell 3 _ rfl
 have Q := Q.alloc Q.size (.cells #[.int .u64 1, .int .u64 0, .int .u64 0, .int .u64 0] 24)
 go_wp2_with fail
 clear k6 k7 k8 k9
 obtain ⟨W1, hW1⟩ : ∃ W1, (v5.alloc (.cells #[.int .u64 1, .int .u64 0, .int .u64 0, .int .u64 0] 24)) = W1 := ⟨_, rfl⟩
 rw [hW1] at LW Q ⊢
 clear hW1
 generalize v5.heap.size = b1 at *
 refine (Hl1.out _).mono ?_
 rintro e v10 ⟨rfl, q⟩
 have LW := LW.later q
 have Q := Q.trans (q.mono Q.size)
 clear q
 have k11 := LW.cell 0 _ rfl
 have k12 := LW.cell 1 _ rfl
 have k13 := LW.cell 2 _ rfl
 have k14 := LW.cell 3 _ rfl
 have LW := LW.alloc (.cells #[.int .u64 0, .int .u64 0, .int .u64 0, .int .u64 0] 24)
 have LV := Has.new v10 24 #[.int .u64 0, .int .u64 0, .int .u64 0, .int .u64 0]
 have k15 := LW.cell 0 _ rfl
 have k16 := LW.cell 1 _ rfl
 have k17 := LW.cell 2 _ rfl
 have k18 := LW.cell 3 _ rfl
 have k19 := LV.cell 0 _ rfl
 have k20 := LV.cell 1 _ rfl
 have k21 := LV.cell 2 _ rfl
 have k22 := LV.cell 3 _ rfl
 have Q := Q.alloc Q.size (.cells #[.int .u64 0, .int .u64 0, .int .u64 0, .int .u64 0] 24)
 go_wp2_with fail
 clear k11 k12 k13 k14 k15 k16 k17 k18 k19 k20 k21 k22
 obtain ⟨W2, hW2⟩ : ∃ W2, (v10.alloc (.cells #[.int .u64 0, .int .u64 0, .int .u64 0, .int .u64 0] 24)) = W2 := ⟨_, rfl⟩
 rw [hW2] at LW LV Q ⊢
 clear hW2
 generalize v10.heap.size = b2 at *
 refine (Ho31.out _).mono ?_
 rintro e v23 ⟨rfl, q⟩
 have LW := LW.later q
 have LV := LV.later q
 have Q := Q.trans (q.mono Q.size)
 clear q
 have k24 := LW.cell 0 _ rfl
 have k25 := LW.cell 1 _ rfl
 have k26 := LW.cell 2 _ rfl
 have k27 := LW.cell 3 _ rfl
 have k28 := LV.cell 0 _ rfl
 have k29 := LV.cell 1 _ rfl
 have k30 := LV.cell 2 _ rfl
 have k31 := LV.cell 3 _ rfl
 go_wp2_with fail
 clear k24 k25 k26 k27 k28 k29 k30 k31
 refine (Ho2.out _).mono ?_
 rintro e v32 ⟨rfl, q⟩
 have LW := LW.later q
 have LV := LV.later q
 have Q := Q.trans (q.mono Q.size)
 clear q
 have k33 := LW.cell 0 _ rfl
 have k34 := LW.cell 1 _ rfl
 have k35 := LW.cell 2 _ rfl
 have k36 := LW.cell 3 _ rfl
 have k37 := LV.cell 0 _ rfl
 have k38 := LV.cell 1 _ rfl
 have k39 := LV.cell 2 _ rfl
 have k40 := LV.cell 3 _ rfl
 go_wp2_with fail
 clear k33 k34 k35 k36 k37 k38 k39 k40
 refine (Hn1.out _).mono ?_
 rintro e v41 ⟨rfl, q⟩
 have LW := LW.later q
 have LV := LV.later q
 have Q := Q.trans (q.mono Q.size)
 clear q
 have k42 := LW.cell 0 _ rfl
 have k43 := LW.cell 1 _ rfl
 have k44 := LW.cell 2 _ rfl
 have k45 := LW.cell 3 _ rfl
 have k46 := LV.cell 0 _ rfl
 have k47 := LV.cell 1 _ rfl
 have k48 := LV.cell 2 _ rfl
 have k49 := LV.cell 3 _ rfl
 go_wp2_with fail
 clear k42 k43 k44 k45 k46 k47 k48 k49
 refine (Hom.out _).mono ?_
 rintro e v50 ⟨rfl, q⟩
 have LW := LW.later q
 have LV := LV.later q
 have Q := Q.trans (q.mono Q.size)
 clear q
 have k51 := LW.cell 0 _ rfl
 have k52 := LW.cell 1 _ rfl
 have k53 := LW.cell 2 _ rfl
 have k54 := LW.cell 3 _ rfl
 have k55 := LV.cell 0 _ rfl
 have k56 := LV.cell 1 _ rfl
 have k57 := LV.cell 2 _ rfl
 have k58 := LV.cell 3 _ rfl
 go_wp2_with fail
 clear k51 k52 k53 k54 k55 k56 k57 k58
 refine (Ho1.out _).mono ?_
 rintro e v59 ⟨rfl, q⟩
 have LW := LW.later q
 have LV := LV.later q
 have Q := Q.trans (q.mono Q.size)
 clear q
 have k60 := LW.cell 0 _ rfl
 have k61 := LW.cell 1 _ rfl
 have k62 := LW.cell 2 _ rfl
 have k63 := LW.cell 3 _ rfl
 have k64 := LV.cell 0 _ rfl
 have k65 := LV.cell 1 _ rfl
 have k66 := LV.cell 2 _ rfl
 have k67 := LV.cell 3 _ rfl
 go_wp2_with fail
 clear k60 k61 k62 k63 k64 k65 k66 k67
 refine (Hn2.out _).mono ?_
 rintro e v68 ⟨rfl, q⟩
 have LW := LW.later q
 have LV := LV.later q
 have Q := Q.trans (q.mono Q.size)
 clear q
 have k69 := LW.cell 0 _ rfl
 have k70 := LW.cell 1 _ rfl
 have k71 := LW.cell 2 _ rfl
 have k72 := LW.cell 3 _ rfl
 have k73 := LV.cell 0 _ rfl
 have k74 := LV.cell 1 _ rfl
 have k75 := LV.cell 2 _ rfl
 have k76 := LV.cell 3 _ rfl
 go_wp2_with fail
 clear k69 k70 k71 k72 k73 k74 k75 k76
 refine (Ho2.out _).mono ?_
 rintro e v77 ⟨rfl, q⟩
 have LW := LW.later q
 have LV := LV.later q
 have Q := Q.trans (q.mono Q.size)
 clear q
 have k78 := LW.cell 0 _ rfl
 have k79 := LW.cell 1 _ rfl
 have k80 := LW.cell 2 _ rfl
 have k81 := LW.cell 3 _ rfl
 have k82 := LV.cell 0 _ rfl
 have k83 := LV.cell 1 _ rfl
 have k84 := LV.cell 2 _ rfl
 have k85 := LV.cell 3 _ rfl
 go_wp2_with fail
 clear k78 k79 k80 k81 k82 k83 k84 k85
 refine (Hpc.out _).mono ?_
 rintro e v86 ⟨rfl, q⟩
 have LW := LW.later q
 have LV := LV.later q
 have Q := Q.trans (q.mono Q.size)
 clear q
 have k87 := LW.cell 0 _ rfl
 have k88 := LW.cell 1 _ rfl
 have k89 := LW.cell 2 _ rfl
 have k90 := LW.cell 3 _ rfl
 have k91 := LV.cell 0 _ rfl
 have k92 := LV.cell 1 _ rfl
 have k93 := LV.cell 2 _ rfl
 have k94 := LV.cell 3 _ rfl
 go_wp2_with fail
 clear k87 k88 k89 k90 k91 k92 k93 k94
 have k95 : ∀ x : Ext v86, x.w.cell? ⟨b1, 0, none⟩ = some (.int .u64 1) := fun x => (LW.later x.below).cell 0 _ rfl
 have k96 : ∀ x : Ext v86, x.w.cell? ⟨b1, 1, none⟩ = some (.int .u64 0) := fun x => (LW.later x.below).cell 1 _ rfl
 have k97 : ∀ x : Ext v86, x.w.cell? ⟨b1, 2, none⟩ = some (.int .u64 0) := fun x => (LW.later x.below).cell 2 _ rfl
 have k98 : ∀ x : Ext v86, x.w.cell? ⟨b1, 3, none⟩ = some (.int .u64 0) := fun x => (LW.later x.below).cell 3 _ rfl
 have k99 : ∀ x : Ext v86, x.w.cell? ⟨b2, 0, none⟩ = some (.int .u64 0) := fun x => (LV.later x.below).cell 0 _ rfl
 have k100 : ∀ x : Ext v86, x.w.cell? ⟨b2, 1, none⟩ = some (.int .u64 0) := fun x => (LV.later x.below).cell 1 _ rfl
 have k101 : ∀ x : Ext v86, x.w.cell? ⟨b2, 2, none⟩ = some (.int .u64 0) := fun x => (LV.later x.below).cell 2 _ rfl
 have k102 : ∀ x : Ext v86, x.w.cell? ⟨b2, 3, none⟩ = some (.int .u64 0) := fun x => (LV.later x.below).cell 3 _ rfl
 clear LW LV
 have HQ := hid Q
 clear Q
 try simp only [List.append]
 refine wp_region_quick (C := Grows v86) (by kernel_rfl) (by kernel_rfl) (by kernel_rfl) (grows_refl v86) ?_
 repeat (go_big_quiet_step (first | (with_reducible exact Ret.at Ho1.out _) | (with_reducible exact Ret.at Hc1.out _) | (with_reducible exact Ret.at Hc2.out _)))
 refine wpQuiet_nil ?_
 rintro _ ⟨x, rfl⟩
 go_wp2
 go_ret
 exact ⟨rfl, HQ.out.trans (x.below.mono HQ.out.size)⟩
def memOne : ByteArray := overS (fullS ⟨#[]⟩ 32) 0 (bytesOf 1)
theorem memOne_size : memOne.size = 32 := by decide +kernel
theorem memOne_last : memOne.extract 31 32 = ⟨#[1]⟩ := by decide +kernel
theorem memOne_all : wordAt memOne 0 = 1 := by decide +kernel
theorem awake_ret : Ret Try.prog 8 #[] (.bool true) := by
 have hz : (fullS ⟨#[]⟩ 32).size = 32 := by decide +kernel
 have w1 : wv 1 = .agg #[.int .u64 1, .int .u64 0, .int .u64 0, .int .u64 0] := wv_nat 1 (by decide)
 have w0 : wv 0 = .agg #[.int .u64 0, .int .u64 0, .int .u64 0, .int .u64 0] := wv_nat 0 (by decide)
 have st := store_ret (fullS ⟨#[]⟩ 32) (by rw [hz]; decide) 0 1 (by unfold W256; decide)
 rw [show copyV (fullS ⟨#[]⟩ 32) 0 (bytesOf 1) = .tuple #[.string memOne, .int .i64 0] from if_pos (by decide +kernel), w1] at st
 have sl := slice_ret memOne (by rw [memOne_size]; decide) 31 1
 rw [show sliceV memOne 31 1 = .tuple #[.string ⟨#[1]⟩, .int .i64 0] from (if_pos (by decide +kernel)).trans (by rw [show ((31 : Int).toNat) = 31 from rfl, show ((31 : Int) + 1).toNat = 32 from rfl, memOne_last])] at sl
 have l0 := load_ret memOne (by rw [memOne_size]; decide) 0
 rw [show loadV memOne 0 = .tuple #[wv 1, .int .i64 0] from (if_pos (by decide +kernel)).trans (by rw [show ((0 : Int).toNat) = 0 from rfl, memOne_all]), w1] at l0
 have l1 := load_ret memOne (by rw [memOne_size]; decide) 1
 rw [show loadV memOne 1 = .tuple #[wv 0, .int .i64 1] from if_neg (by decide +kernel), w0] at l1
 have g1 := grow_ret ⟨#[]⟩ (by decide) 1
 rw [show growV ⟨#[]⟩ 1 = .tuple #[.string (fullS ⟨#[]⟩ 32), .int .i64 0] from if_pos (by decide +kernel)] at g1
 exact awake_walk (fullS ⟨#[]⟩ 32) memOne (by rw [hz]; rfl) g1 (ofR 1 (by decide)) (ofR 2 (by decide)) (ofR 31 (by decide)) (ofR 1048576 (by decide)) st sl l0 l1
  (needR 31 2 (by decide) (by decide)) (needR 1048576 1 (by decide) (by decide)) (Ret.of_eq (pieceR ⟨#[97, 98, 99]⟩ (by decide) 2 (by decide) 3) rfl ((if_pos (by decide +kernel)).trans (by congr 3))) (Ret.of_eq (cost_ret 1) rfl (by rw [show costN 1 = 3 by decide +kernel])) (Ret.of_eq (cost_ret 1024) rfl (by rw [show costN 1024 = 5120 by decide +kernel]))
end
section
open Go Go.RowKit
attribute [local go_sem] Oper.semAt_some Grows wide_fn
def repS (s : ByteArray) (n : Nat) : Nat → ByteArray → ByteArray
 | 0, x => x
 | f + 1, x => if x.size < n ∧ 0 < s.size then repS s n f (x ++ s) else x
def padS (n : Nat) : Nat → ByteArray → ByteArray
 | 0, x => x
 | f + 1, x => if x.size < n then padS n f (x ++ ⟨#[0]⟩) else x
theorem padS_size (n : Nat) : ∀ (f : Nat) (x : ByteArray), n ≤ x.size + f → n ≤ (padS n f x).size
 | 0, x, h => by unfold padS; omega
 | f + 1, x, h => by
  unfold padS
  split
  ·exact padS_size n f _ (by rw [ByteArray.size_append]; show n ≤ x.size + 1 + f; omega)
  ·omega
def memS (s : ByteArray) (c : Int) : ByteArray := (padS (32 * (pickN c 17).toNat) 1024 (repS s (32 * (pickN c 17).toNat) 1024 s)).extract 0 (32 * (pickN c 17).toNat)
theorem memS_size (s : ByteArray) (c : Int) : (memS s c).size = 32 * (pickN c 17).toNat := by
 have h0 := pickN_range c 17 (by decide)
 have h := padS_size (32 * (pickN c 17).toNat) 1024 (repS s (32 * (pickN c 17).toNat) 1024 s) (by omega)
 unfold memS
 rw [ByteArray.size_extract]
 omega
theorem mem_ret (s : ByteArray) (hs : s.size ≤ 70368744177664) (c : Int) (hc : I64 c) : Ret Try.prog 15 #[.string s, .int .i64 c] (.string (memS s c)) := by
 intro w
 have H0 := hid (pick_ret c hc 17 (by decide) (by decide))
 obtain ⟨g0, g1⟩ := pickN_range c 17 (by decide)
 unfold memS
 obtain ⟨p, hp⟩ : ∃ p : Nat, pickN c 17 = (p : Int) := ⟨(pickN c 17).toNat, by omega⟩
 rw [hp, Int.toNat_natCast]
 rw [hp] at H0 g0 g1
 have hn : 32 * p ≤ 512 := by omega
 have en : 32 * (p : Int) = ((32 * p : Nat) : Int) := by omega
 obtain ⟨n, hnn⟩ : ∃ n : Nat, 32 * p = n := ⟨_, rfl⟩
 rw [hnn] at hn en ⊢
 clear hp hnn g0
 obtain ⟨R, hR⟩ : ∃ R, repS s n 1024 s = R := ⟨_, rfl⟩
 obtain ⟨T, hT⟩ : ∃ T, padS n 1024 R = T := ⟨_, rfl⟩
 have hts : n ≤ T.size := by rw [← hT]; exact padS_size n 1024 R (by omega)
 rw [hR, hT]
 have HR := hid hR
 have HT := hid hT
 clear hR hT
 go_enter Try.func15, Try.ntmps15
 go_wp2_with fail
 refine (H0.out _).mono ?_
 rintro e w1 ⟨rfl, q1⟩
 go_wp2
 go_loopw [6] (fun i wr => w1 = wr ∧ ∃ (f : Nat) (x : ByteArray), i = .string x ∧ s.size ≤ x.size ∧ x.size ≤ 70368744177664 ∧ Hid (n ≤ x.size + f) ∧ Hid (repS s n f x = R)) (fun i _ => match i with | .string x => n - x.size | _ => 0)
 case atStart => exact ⟨rfl, 1024, s, rfl, Nat.le_refl _, hs, (by show _ ≤ _; omega), HR.out⟩
 case round =>
  obtain ⟨rfl, f, x, rfl, hx, hx2, hf, hr⟩ := hrel
  by_cases h1 : x.size < n
  ·have h1' : (x.size : Int) < (n : Int) := by omega
   by_cases h2 : 0 < s.size
   ·have h2' : (0 : Int) < (s.size : Int) := by omega
    have h3 : x.size + s.size ≤ 1024 := by omega
    have hf0 : ∃ f', f = f' + 1 := by
     cases f with
     | zero => have := hf.out; omega
     | succ f' => exact ⟨f', rfl⟩
    obtain ⟨f', rfl⟩ := hf0
    have hr2 : Hid (repS s n f' (x ++ s) = R) := by
     have h := hr.out
     unfold repS at h
     rw [if_pos ⟨h1, h2⟩] at h
     exact h
    clear hr
    go_wp2
    go_roundw
    case rel => exact ⟨by trivial, f', x ++ s, rfl, by rw [ByteArray.size_append]; omega, by rw [ByteArray.size_append]; omega, (by have := hf.out; show _ ≤ _; rw [ByteArray.size_append]; omega), hr2⟩
    case measure => simp [ByteArray.size_append]; omega
   ·have h2' : ¬ (0 : Int) < (s.size : Int) := by omega
    have hRx : Hid (x = R) := by
     have h := hr.out
     cases f with
     | zero => exact h
     | succ f' => unfold repS at h; rw [if_neg (fun h' => h2 h'.2)] at h; exact h
    obtain rfl := hRx.out
    clear hr hf hRx
    go_wp2
    go_loopw [6] (fun i wr => w1 = wr ∧ ∃ (f : Nat) (x : ByteArray), i = .string x ∧ x.size ≤ 70368744177664 ∧ Hid (n ≤ x.size + f) ∧ Hid (padS n f x = T)) (fun i _ => match i with | .string x => n - x.size | _ => 0)
    case atStart => exact ⟨rfl, 1024, x, rfl, hx2, (by show _ ≤ _; omega), HT.out⟩
    case round =>
     obtain ⟨rfl, f, y, rfl, hy2, hf, hr⟩ := hrel
     by_cases h1 : y.size < n
     ·have h1' : (y.size : Int) < (n : Int) := by omega
      have hf0 : ∃ f', f = f' + 1 := by
       cases f with
       | zero => have := hf.out; omega
       | succ f' => exact ⟨f', rfl⟩
      obtain ⟨f', rfl⟩ := hf0
      have hr2 : Hid (padS n f' (y ++ ⟨#[0]⟩) = T) := by
       have h := hr.out
       unfold padS at h
       rw [if_pos h1] at h
       exact h
      have hs1 : (⟨#[0]⟩ : ByteArray).size = 1 := rfl
      clear hr
      go_wp2
      go_roundw
      case rel => exact ⟨by trivial, f', y ++ ⟨#[0]⟩, rfl, by rw [ByteArray.size_append, hs1]; omega, (by have := hf.out; show _ ≤ _; rw [ByteArray.size_append, hs1]; omega), hr2⟩
      case measure => simp [ByteArray.size_append]; omega
     ·have h1' : ¬ (y.size : Int) < (n : Int) := by omega
      have hTy : Hid (y = T) := by
       have h := hr.out
       cases f with
       | zero => exact h
       | succ f' => unfold padS at h; rw [if_neg h1] at h; exact h
      obtain rfl := hTy.out
      clear hr hf hTy
      go_wp2
      go_ret
      exact ⟨rfl, q1⟩
  ·have h1' : ¬ (x.size : Int) < (n : Int) := by omega
   have hRx : Hid (x = R) := by
    have h := hr.out
    cases f with
    | zero => exact h
    | succ f' => unfold repS at h; rw [if_neg (fun h' => h1 h'.1)] at h; exact h
   obtain rfl := hRx.out
   clear hr hf hRx
   go_wp2
   go_loopw [6] (fun i wr => w1 = wr ∧ ∃ (f : Nat) (x : ByteArray), i = .string x ∧ x.size ≤ 70368744177664 ∧ Hid (n ≤ x.size + f) ∧ Hid (padS n f x = T)) (fun i _ => match i with | .string x => n - x.size | _ => 0)
   case atStart => exact ⟨rfl, 1024, x, rfl, hx2, (by show _ ≤ _; omega), HT.out⟩
   case round =>
    obtain ⟨rfl, f, y, rfl, hy2, hf, hr⟩ := hrel
    by_cases h1 : y.size < n
    ·have h1' : (y.size : Int) < (n : Int) := by omega
     have hf0 : ∃ f', f = f' + 1 := by
      cases f with
      | zero => have := hf.out; omega
      | succ f' => exact ⟨f', rfl⟩
     obtain ⟨f', rfl⟩ := hf0
     have hr2 : Hid (padS n f' (y ++ ⟨#[0]⟩) = T) := by
      have h := hr.out
      unfold padS at h
      rw [if_pos h1] at h
      exact h
     have hs1 : (⟨#[0]⟩ : ByteArray).size = 1 := rfl
     clear hr
     go_wp2
     go_roundw
     case rel => exact ⟨by trivial, f', y ++ ⟨#[0]⟩, rfl, by rw [ByteArray.size_append, hs1]; omega, (by have := hf.out; show _ ≤ _; rw [ByteArray.size_append, hs1]; omega), hr2⟩
     case measure => simp [ByteArray.size_append]; omega
    ·have h1' : ¬ (y.size : Int) < (n : Int) := by omega
     have hTy : Hid (y = T) := by
      have h := hr.out
      cases f with
      | zero => exact h
      | succ f' => unfold padS at h; rw [if_neg h1] at h; exact h
     obtain rfl := hTy.out
     clear hr hf hTy
     go_wp2
     go_ret
     exact ⟨rfl, q1⟩
end
section
open Go Go.RowKit
attribute [local go_sem] Oper.semAt_some Grows wide_fn eq4
theorem fullS_list (m : ByteArray) (n : Nat) : (fullS m n).data.toList = m.data.toList ++ List.replicate (n - m.size) 0 := rfl
theorem ba_ext {a b : ByteArray} (h : a.data.toList = b.data.toList) : a = b := ByteArray.ext (Array.toList_inj.1 h)
theorem ba_len (a : ByteArray) : a.data.toList.length = a.size := by simp
theorem pieceS_list (s : ByteArray) (a n : Nat) : (pieceS s a n).data.toList = (s.data.toList.drop a).take n ++ List.replicate (n - (s.size - a)) 0 := by
 unfold pieceS
 rw [fullS_list, extract_list, extract_list]
 simp only [ByteArray.size_extract]
 have e : (s.data.toList.drop (min a s.size)).take (s.size - min a s.size) = s.data.toList.drop a := by
  rw [List.take_of_length_le (by rw [List.length_drop, ba_len]; omega)]
  by_cases h : a ≤ s.size
  ·rw [Nat.min_eq_left h]
  ·rw [List.drop_of_length_le (by rw [ba_len]; omega), List.drop_of_length_le (by rw [ba_len]; omega)]
 rw [e, List.drop_zero]
 congr 1
 ·by_cases h : n ≤ s.size - a
  ·congr 1; omega
  ·rw [List.take_of_length_le (by rw [List.length_drop, ba_len]; omega), List.take_of_length_le (by rw [List.length_drop, ba_len]; omega)]
 ·congr 1; omega
end
section
open Go Go.RowKit Go.Shelf
attribute [local go_sem] Oper.semAt_some Grows wide_fn

theorem infoB : (Try.prog.info? 5).map (fun i => (i.zero, i.size, i.bytes)) = some (some (.int .u8 0), 1, 1) := by kernel_rfl
def byteL (a : Nat) : List Nat := (List.range 32).map fun j => byteN a (31 - j)
theorem bytesOf_list (a : Nat) : (bytesOf a).data.toList = (byteL a).map UInt8.ofNat := by
 unfold bytesOf strOfNums byteL
 simp [Function.comp_def]
end
section
open Go Go.RowKit
theorem octVal_from : ∀ (l : List UInt8) (n : Nat), octVal n l = n * 256 ^ l.length + octVal 0 l
 | [], n => by simp [octVal]
 | c :: r, n => by
  simp only [octVal, List.length_cons]
  rw [octVal_from r (n * 256 + c.toNat), octVal_from r (0 * 256 + c.toNat), Nat.pow_succ]
  rw [Nat.add_mul, Nat.add_mul, Nat.mul_assoc, Nat.mul_comm 256, Nat.zero_mul]
  omega
end
section
open Go Go.RowKit Go.Shelf
attribute [local go_sem] Oper.semAt_some Grows wide_fn
theorem refInt_ret (a : Nat) (ha : W256 a) : Ret Try.prog 35 #[wv a] (intV a) := by
 intro w
 have hn := num_lim a ha
 have l0 := lim_u64 a 0
 have l1 := lim_u64 a 1
 have l2 := lim_u64 a 2
 have l3 := lim_u64 a 3
 unfold U64 at l0 l1 l2 l3
 unfold num at hn
 obtain ⟨p0, q0⟩ := l0
 obtain ⟨p1, q1⟩ := l1
 obtain ⟨p2, q2⟩ := l2
 obtain ⟨p3, q3⟩ := l3
 unfold wv
 have HB := Lib.hid ((Below.refl _ w).alloc (Nat.le_refl _) (.cells #[.int .u64 (lim a 0), .int .u64 (lim a 1), .int .u64 (lim a 2), .int .u64 (lim a 3)] 24))
 by_cases c1 : 0 < lim a 1
 ·have e : intV a = .tuple #[.int .i64 0, .bool false] := by unfold intV maxI; rw [if_neg (by omega)]
  rw [e]
  clear hn e ha
  generalize lim a 0 = z0 at *; generalize lim a 1 = z1 at *; generalize lim a 2 = z2 at *; generalize lim a 3 = z3 at *
  go_enter Try.func35, Try.ntmps35
  go_wp2
  go_ret2
  exact ⟨rfl, HB.out⟩
 ·by_cases c2 : 0 < lim a 2
  ·have e : intV a = .tuple #[.int .i64 0, .bool false] := by unfold intV maxI; rw [if_neg (by omega)]
   rw [e]
   clear hn e ha
   generalize lim a 0 = z0 at *; generalize lim a 1 = z1 at *; generalize lim a 2 = z2 at *; generalize lim a 3 = z3 at *
   go_enter Try.func35, Try.ntmps35
   go_wp2
   go_ret2
   exact ⟨rfl, HB.out⟩
  ·by_cases c3 : 0 < lim a 3
   ·have e : intV a = .tuple #[.int .i64 0, .bool false] := by unfold intV maxI; rw [if_neg (by omega)]
    rw [e]
    clear hn e ha
    generalize lim a 0 = z0 at *; generalize lim a 1 = z1 at *; generalize lim a 2 = z2 at *; generalize lim a 3 = z3 at *
    go_enter Try.func35, Try.ntmps35
    go_wp2
    go_ret2
    exact ⟨rfl, HB.out⟩
   ·by_cases c0 : 4611686018427387903 < lim a 0
    ·have e : intV a = .tuple #[.int .i64 0, .bool false] := by unfold intV maxI; rw [if_neg (by omega)]
     rw [e]
     clear hn e ha
     generalize lim a 0 = z0 at *; generalize lim a 1 = z1 at *; generalize lim a 2 = z2 at *; generalize lim a 3 = z3 at *
     go_enter Try.func35, Try.ntmps35
     go_wp2
     go_ret2
     exact ⟨rfl, HB.out⟩
    ·have e : intV a = .tuple #[.int .i64 (lim a 0), .bool true] := by
      unfold intV maxI
      rw [if_pos (by omega), show (a : Int) = lim a 0 by omega]
     rw [e]
     clear hn e ha
     generalize lim a 0 = z0 at *; generalize lim a 1 = z1 at *; generalize lim a 2 = z2 at *; generalize lim a 3 = z3 at *
     go_enter Try.func35, Try.ntmps35
     go_wp2
     go_ret2
     exact ⟨rfl, HB.out⟩
def bytV (a n : Nat) : List Value := (List.range n).map fun j => Value.int .u8 (dg a (31 - j) : Int)
theorem bytV_succ (a n : Nat) : bytV a (n + 1) = bytV a n ++ [.int .u8 (dg a (31 - n) : Int)] := by simp [bytV, List.range_succ]
theorem bytes_back (a : Nat) : (⟨((byteL a).map UInt8.ofNat).toArray⟩ : ByteArray) = bytesOf a := by
 have h := bytesOf_list a
 cases hb : bytesOf a with
 | mk data =>
  rw [hb] at h
  simp only [] at h
  rw [← h]
theorem refBytes_ret (a : Nat) : Ret Try.prog 30 #[wv a] (.string (bytesOf a)) := by
 intro w
 have B0 := (Below.refl _ w).alloc (Nat.le_refl _) (.cells #[.int .u64 (lim a 0), .int .u64 (lim a 1), .int .u64 (lim a 2), .int .u64 (lim a 3)] 24)
 have s0 : w.heap.size + 1 ≤ (w.alloc (.cells #[.int .u64 (lim a 0), .int .u64 (lim a 1), .int .u64 (lim a 2), .int .u64 (lim a 3)] 24)).heap.size := by simp
 have DA := digits_any a
 unfold wv at DA ⊢
 go_enter Try.func30, Try.ntmps30
 go_wp2_with fail
 obtain ⟨W0, hW0⟩ : ∃ W0, w.alloc (.cells #[.int .u64 (lim a 0), .int .u64 (lim a 1), .int .u64 (lim a 2), .int .u64 (lim a 3)] 24) = W0 := ⟨_, rfl⟩
 rw [hW0] at B0 s0 ⊢
 clear hW0
 refine (DA _).mono ?_
 rintro e w1 ⟨g, cap, rfl, hg, X1, q⟩
 have B1 := B0.trans (q.mono B0.size)
 have hgl := X1.lt
 have R0 := World.ownsRow_nil w1 w1.heap.size 5 1
 have hs1 : w.heap.size ≤ w1.heap.size := B1.size
 clear q B0 DA s0 hg
 go_wp2
 go_loopw [4, 5] (fun t i wr => ∃ (z : Int) (k : Nat), i = .int .i64 z ∧ k ≤ 32 ∧ z = 31 - (k : Int) ∧ wr.ownsRow w1.heap.size 5 1 t k (bytV a k) ∧ IntsAt wr g 32 (fun j => (dg a j : Int)) ∧ Below w.heap.size w wr ∧ w1.heap.size ≤ wr.heap.size) (fun _ i _ => (intOf i + 1).toNat)
 case atStart => exact ⟨31, 0, rfl, by omega, by omega, R0, X1, B1, Nat.le_refl _⟩
 case round =>
  obtain ⟨z, k, rfl, hk, hz, hown, xx, hB, hsz⟩ := hrel
  clear R0 X1 B1
  by_cases hlt : k < 32
  ·obtain ⟨i, hi⟩ : ∃ i : Nat, z = i := ⟨31 - k, by omega⟩
   subst hi
   have hik : i = 31 - k := by omega
   have hi0 : (0 : Int) ≤ (i : Int) := by omega
   have hi9 : (i : Int) < 32 := by omega
   have cd := xx.cell (j := i) (by omega)
   have db := dg_lt a i
   have HV := Lib.hid (bytV_succ a k)
   rw [← hik] at HV
   have HK := Lib.hid hlt
   have HIK := Lib.hid hik
   have HX := Lib.hid xx
   have HO := Lib.hid hown
   have HB := Lib.hid hB
   have HZ := Lib.hid hsz
   have b0 : (0 : Int) ≤ (dg a i : Int) := by omega
   have b1 : (dg a i : Int) < 256 := by omega
   obtain ⟨i0, hi, hz0, hz1, hz2⟩ := info_parts infoB
   clear hk hz hlt hik hown xx hB hsz db
   generalize (dg a i : Int) = b at *
   go_wp2_with (at_builtin; refine wpList_append_own _ rfl _ _ 58 rfl w1.heap.size 5 i0 (.int .u8 0) 1 1 Try.underlying58 hi hz0 hz1 hz2 rfl (by decide) _ _ _ rfl (HO.out.alloc _) ⟨wr.heap.size, 0, none⟩ 1 1 [.int .u8 b] rfl rfl (cell_one _ _ _) (by simp [Value.oneCell']) (by unfold maxLen; have := HK.out; omega) (by have := HK.out; omega) (by have := HZ.out; simp; omega) ?_; intro v' w3 hown' hgrow hnil)
   clear hi hz0 hz1 hz2
   go_wp2
   go_roundw
   case rel =>
    have hxs3 := hgrow.size
    have hzz := HZ.out
    refine ⟨(i : Int) - 1, k + 1, by simp, HK.out, by have := HIK.out; have := HK.out; omega, ?_, ?_, ?_, by simp at hxs3; omega⟩
    ·rw [HV.out]; exact hown'
    ·exact (HX.out.alloc _).kept hgrow (fun e => by have := (HO.out.alloc (.cells #[.int .u8 b] 5)).lt _ e.symm; omega)
    ·exact (HB.out.alloc (by omega) _).grown hgrow (by simp; omega) (fun j e => by have := (HO.out.alloc (.cells #[.int .u8 b] 5)).lt j e; omega)
   case measure => first | (simp [intOf]; done) | (simp [intOf]; omega)
  ·obtain rfl : k = 32 := by omega
   obtain rfl : z = -1 := by omega
   obtain ⟨g', cap', rfl⟩ := ownsRow_succ (k := 31) hown
   have hback : (convert 58 9 (.slice (some ⟨g', 0, none⟩) 32 cap')).run Try.prog wr = .ok (.string (bytesOf a)) wr := by
    have hl : ((byteL a).map UInt8.ofNat).length = 32 := by simp [byteL]
    have h := run_convert_bytes_back (P := Try.prog) wr 58 9 5 ⟨g', 0, none⟩ cap' ((byteL a).map UInt8.ofNat) Try.underlying58 Try.underlying5 Try.underlying9 (fun j hj => by
     have hj2 : j < 32 := by omega
     have hcell := hown.cells (g := g') rfl j (.int .u8 (dg a (31 - j) : Int)) (by simp [bytV, hj2])
     rw [hcell]
     congr 2
     have hgt : ((byteL a).map UInt8.ofNat)[j] = UInt8.ofNat (byteN a (31 - j)) := by simp [byteL]
     refine Eq.trans ?_ (congrArg (fun c : UInt8 => (c.toNat : Int)) hgt).symm
     show (dg a (31 - j) : Int) = ((UInt8.ofNat (byteN a (31 - j))).toNat : Int)
     rw [UInt8.toNat_ofNat', Nat.mod_eq_of_lt (show byteN a (31 - j) < 2 ^ 8 from byteN_lt a _)]
     rfl)
    rw [hl, bytes_back] at h
    exact h
   have HB := Lib.hid hB
   clear hk hz hlt hown xx hB hsz
   go_wp2
   go_ret
   exact ⟨rfl, HB.out⟩
def bd (l : List UInt8) (j : Nat) : Int := if j < l.length then ((l.reverse.getD j 0).toNat : Int) else 0
theorem bd_range (l : List UInt8) (j : Nat) : 0 ≤ bd l j ∧ bd l j < 256 := by
 unfold bd
 split
 ·have := (l.reverse.getD j 0).toNat_lt; constructor <;> omega
 ·constructor <;> omega
theorem bd_val (l : List UInt8) : valI (bd l) l.length = (octVal 0 l : Int) := by
 induction l with
 | nil => rfl
 | cons c r ih =>
  have e : valI (bd (c :: r)) r.length = valI (bd r) r.length := valI_congr _ _ _ (fun j hj => by
   unfold bd
   rw [if_pos (by simp; omega), if_pos hj]
   congr 2
   simp only [List.reverse_cons]
   rw [List.getD_eq_getElem?_getD, List.getD_eq_getElem?_getD, List.getElem?_append_left (by simpa using hj)])
  rw [List.length_cons, valI, e, ih]
  have e2 : bd (c :: r) r.length = (c.toNat : Int) := by
   unfold bd
   rw [if_pos (by simp)]
   simp only [List.reverse_cons]
   rw [List.getD_eq_getElem?_getD, List.getElem?_append_right (by simp)]
   simp
  rw [e2]
  show _ = ((octVal (0 * 256 + c.toNat) r : Nat) : Int)
  rw [octVal_from r (0 * 256 + c.toNat), Nat.zero_mul, Nat.zero_add, Int.natCast_add, Int.natCast_mul, Int.natCast_pow, show ((256 : Nat) : Int) = 256 from rfl]
  omega
theorem valI_more (d : Nat → Int) (n : Nat) (hz : ∀ j, n ≤ j → d j = 0) : ∀ m, n ≤ m → valI d m = valI d n
 | 0, h => by
  obtain rfl : n = 0 := by omega
  rfl
 | m + 1, h => by
  by_cases e : n = m + 1
  ·rw [e]
  ·rw [valI, hz m (by omega), valI_more d n hz m (by omega)]
   omega
theorem bd_last (l : List UInt8) : (valI (bd (l.drop (l.length - 32))) 32).toNat = fromB l := by
 have h1 := bd_val (l.drop (l.length - 32))
 have h2 := valI_more (bd (l.drop (l.length - 32))) (l.drop (l.length - 32)).length (fun j hj => if_neg (by omega)) 32 (by rw [List.length_drop]; omega)
 rw [h2, h1]
 rfl
theorem bd_at (s : ByteArray) (k i : Nat) (hk : k < 32) (hi : i + k + 1 = s.size) : bd (s.data.toList.drop (s.data.toList.length - 32)) k = ((s[i]'(by omega)).toNat : Int) := by
 have hl : s.data.toList.length = s.size := by simp
 unfold bd
 rw [if_pos (by rw [List.length_drop]; omega)]
 congr 2
 rw [List.getD_eq_getElem?_getD, List.getElem?_reverse (by rw [List.length_drop]; omega), List.length_drop, List.getElem?_drop, hl, show s.size - 32 + (s.size - (s.size - 32) - 1 - k) = i by omega, List.getElem?_eq_getElem (by omega)]
 rfl
theorem row_form {w : World} {base : Nat} {e : TypeId} {size : Nat} {v : Value} {n : Nat} {xs : List Value} (h : w.ownsRow base e size v n xs) : ∃ o cap, v = .slice o n cap := by
 rcases h.2 with ⟨rfl, rfl⟩ | ⟨g, cap, cur, rfl, _⟩
 ·exact ⟨none, 0, rfl⟩
 ·exact ⟨_, _, rfl⟩
theorem fromDigits_nil (d : Nat → Int) (hz : ∀ j, 0 ≤ j → d j = 0) (c : Nat) (w : World) :
  Calls Try.prog 58 #[.slice none 0 c] w fun e w' => e = .returned (wv (valI d 32).toNat) ∧ Below w.heap.size w w' := by
 have e0 : (valI d 32).toNat = 0 := by
  rw [valI_congr d (fun _ => 0) 32 (fun j _ => hz j (Nat.zero_le j)), valI_zero]; rfl
 rw [e0, show wv 0 = .agg #[.int .u64 0, .int .u64 0, .int .u64 0, .int .u64 0] from wv_of ⟨by decide, by decide, by decide, by decide⟩]
 have A1 := (Arr4.mk0' w 24).alloc (.cells #[.int .u64 0, .int .u64 0, .int .u64 0, .int .u64 0] 24)
 have A2 := Arr4.mk0' (w.alloc (.cells #[.int .u64 0, .int .u64 0, .int .u64 0, .int .u64 0] 24)) 24
 have B0 := ((Below.refl _ w).alloc (Nat.le_refl _) (.cells #[.int .u64 0, .int .u64 0, .int .u64 0, .int .u64 0] 24)).alloc (by simp) (.cells #[.int .u64 0, .int .u64 0, .int .u64 0, .int .u64 0] 24)
 rw [World.size_alloc] at A2
 go_enter Try.func58, Try.ntmps58
 go_wp2
 obtain ⟨W0, hW0⟩ : ∃ W0, (w.alloc (.cells #[.int .u64 0, .int .u64 0, .int .u64 0, .int .u64 0] 24)).alloc (.cells #[.int .u64 0, .int .u64 0, .int .u64 0, .int .u64 0] 24) = W0 := ⟨_, rfl⟩
 rw [hW0] at A1 A2 B0 ⊢
 clear hW0 e0
 go_loopw [4] (fun i wr => i = .int .i64 (-1) ∧ Arr4 wr w.heap.size 24 (fun _ => 0) ∧ Arr4 wr (w.heap.size + 1) 24 (fun _ => 0) ∧ Below w.heap.size w wr) (fun i _ => 0)
 case atStart => exact ⟨rfl, A1, A2, B0⟩
 case round =>
  obtain ⟨rfl, a1, a2, hB⟩ := hrel
  clear A1 A2 B0
  have c0 := a2.cell (j := 0) (by omega)
  have c1 := a2.cell (j := 1) (by omega)
  have c2 := a2.cell (j := 2) (by omega)
  have c3 := a2.cell (j := 3) (by omega)
  have f0 := a1.frozen 0
  have f1 := a1.frozen 1
  have f2 := a1.frozen 2
  have f3 := a1.frozen 3
  have d0 := a1.cell (j := 0) (by omega)
  have d1 := a1.cell (j := 1) (by omega)
  have d2 := a1.cell (j := 2) (by omega)
  have d3 := a1.cell (j := 3) (by omega)
  have HA1 := Lib.hid a1
  have HB := Lib.hid hB
  clear a1 a2 hB
  go_wp2
  refine bodyPost_ret (results_word rfl rfl (HA1.out.store (fun _ => 0))) rfl ⟨rfl, ?_⟩
  exact (((HB.out.setCell (p := ⟨w.heap.size, 0, none⟩) (by simp) _).setCell (p := ⟨w.heap.size, 1, none⟩) (by simp) _).setCell (p := ⟨w.heap.size, 2, none⟩) (by simp) _).setCell (p := ⟨w.heap.size, 3, none⟩) (by simp) _
theorem refFromBytes_ret (s : ByteArray) (hs : s.size ≤ 140737488355328) : Ret Try.prog 43 #[.string s] (wv (fromB s.data.toList)) := by
 intro w
 have hl : s.data.toList.length = s.size := by simp
 have HL := Lib.hid (bd_last s.data.toList)
 have HAT := Lib.hid (fun k i (hk : k < 32) (hi : i + k + 1 = s.size) => bd_at s k i hk hi)
 have HBR := Lib.hid (bd_range (s.data.toList.drop (s.data.toList.length - 32)))
 have HBZ : Hid (∀ j, min s.size 32 ≤ j → bd (s.data.toList.drop (s.data.toList.length - 32)) j = 0) := fun j hj => if_neg (by rw [List.length_drop]; omega)
 generalize bd (s.data.toList.drop (s.data.toList.length - 32)) = d at *
 generalize fromB s.data.toList = N at *
 clear hl
 have A0 := Arr4.mk0' w 24
 have B0 := (Below.refl _ w).alloc (Nat.le_refl _) (.cells #[.int .u64 0, .int .u64 0, .int .u64 0, .int .u64 0] 24)
 have s0 : w.heap.size + 1 ≤ (w.alloc (.cells #[.int .u64 0, .int .u64 0, .int .u64 0, .int .u64 0] 24)).heap.size := by simp
 have R0 := World.ownsRow_nil (w.alloc (.cells #[.int .u64 0, .int .u64 0, .int .u64 0, .int .u64 0] 24)) (w.heap.size + 1) 3 1
 have hsI : (s.size : Int) ≤ 140737488355328 := by omega
 have hsI0 : (0 : Int) ≤ (s.size : Int) := by omega
 go_enter Try.func43, Try.ntmps43
 go_wp2
 obtain ⟨W0, hW0⟩ : ∃ W0, w.alloc (.cells #[.int .u64 0, .int .u64 0, .int .u64 0, .int .u64 0] 24) = W0 := ⟨_, rfl⟩
 rw [hW0] at A0 B0 s0 R0 ⊢
 clear hW0
 go_loopw [3, 4] (fun t i wr => ∃ (z : Int) (k : Nat), i = .int .i64 z ∧ k ≤ 32 ∧ k ≤ s.size ∧ z = (s.size : Int) - 1 - (k : Int) ∧ wr.ownsRow (w.heap.size + 1) 3 1 t k ((List.range k).map fun j => Value.int .i64 (d j)) ∧ Arr4 wr w.heap.size 24 (fun _ => 0) ∧ Below w.heap.size w wr ∧ w.heap.size + 1 ≤ wr.heap.size) (fun _ i _ => (intOf i + 1).toNat)
 case atStart => exact ⟨_, 0, rfl, by omega, by omega, by simp, R0, A0, B0, s0⟩
 case round =>
  obtain ⟨z, k, rfl, hk, hks, hz, hown, aa, hB, hsz⟩ := hrel
  clear R0 A0 B0 s0
  obtain ⟨o, cap, rfl⟩ := row_form hown
  by_cases hlt : k < s.size ∧ k < 32
  ·obtain ⟨hlt1, hlt2⟩ := hlt
   obtain ⟨i, hi⟩ : ∃ i : Nat, z = i := ⟨s.size - 1 - k, by omega⟩
   subst hi
   have hik : i + k + 1 = s.size := by omega
   have hi0 : (0 : Int) ≤ (i : Int) := by omega
   have his : i < s.size := by omega
   have hiI : (i : Int) < (s.size : Int) := by omega
   have hkI : (k : Int) < 32 := by omega
   have hk0 : (0 : Int) ≤ (k : Int) := by omega
   have hat : d k = ((s[i]'his).toNat : Int) := HAT.out k i hlt2 hik
   have hb := s[i].toNat_lt
   have b0 : (0 : Int) ≤ (s[i].toNat : Int) := by omega
   have b1 : (s[i].toNat : Int) < 256 := by omega
   have HD := Lib.hid hat
   have HK := Lib.hid (And.intro hlt1 hlt2)
   have HIK := Lib.hid hik
   have HA := Lib.hid aa
   have HO := Lib.hid hown
   have HB := Lib.hid hB
   have HZ := Lib.hid hsz
   obtain ⟨i0, hi, hz0, hz1, hz2⟩ := info_parts infoI
   clear hk hks hz hlt1 hlt2 hik hown aa hB hsz hb hat
   go_wp2_with (at_builtin; refine wpList_append_own _ rfl _ _ 38 rfl (w.heap.size + 1) 3 i0 (.int .i64 0) 1 8 Try.underlying38 hi hz0 hz1 hz2 rfl (by decide) _ _ _ rfl (HO.out.alloc _) ⟨wr.heap.size, 0, none⟩ 1 1 [.int .i64 (s[i].toNat : Int)] rfl rfl (cell_one _ _ _) (by simp [Value.oneCell']) (by unfold maxLen; have := HK.out; omega) (by have := HK.out; omega) (by have := HZ.out; simp; omega) ?_; intro v' w3 hown' hgrow hnil)
   clear hi hz0 hz1 hz2
   go_wp2
   go_roundw
   case rel =>
    have hxs3 := hgrow.size
    have hzz := HZ.out
    have hltA := HA.out.lt
    refine ⟨(i : Int) - 1, k + 1, by simp, by have := HK.out; omega, by have := HK.out; omega, by have := HIK.out; omega, ?_, ?_, ?_, by simp at hxs3; omega⟩
    ·rw [List.range_succ, List.map_append, List.map_cons, List.map_nil, HD.out]; exact hown'
    ·exact (HA.out.alloc _).kept hgrow (fun e => by have := (HO.out.alloc (.cells #[.int .i64 (s[i].toNat : Int)] 3)).lt _ e.symm; omega)
    ·exact (HB.out.alloc (by omega) _).grown hgrow (by simp; omega) (fun j e => by have := (HO.out.alloc (.cells #[.int .i64 (s[i].toNat : Int)] 3)).lt j e; omega)
   case measure => first | (simp [intOf]; done) | (simp [intOf]; omega)
  ·have hm : k = min s.size 32 := by omega
   have DD : Calls Try.prog 58 #[.slice o k cap] wr fun e w' => e = .returned (wv N) ∧ Below wr.heap.size wr w' := by
    rw [← HL.out]
    rcases hown.2 with ⟨h1, h2⟩ | ⟨g, cap', cur, h1, hb, hg, _⟩
    ·cases h1
     exact fromDigits_nil d (fun j _ => HBZ.out j (by omega)) 0 wr
    ·cases h1
     have hx := IntsAt.of_row (d := d) hown (fun j hj => by simp [hj])
     exact fromDigits_any d HBR.out k g cap (by omega) (fun j hj => HBZ.out j (by omega)) wr hx.2
   have HA := Lib.hid aa
   have HB := Lib.hid hB
   have HDD := Lib.hid DD
   have hk0 : (0 : Int) ≤ (k : Int) := by omega
   unfold wv at HDD
   by_cases h32 : k = 32
   ·subst h32
    by_cases hz1 : 0 ≤ z
    ·clear hk hks hz hown aa hB hsz hlt hm DD
     go_wp2_with fail
     refine HDD.out.mono ?_
     rintro e w4 ⟨rfl, q⟩
     have a3 := HA.out.later' q
     have HB := Lib.hid (HB.out.trans (q.mono HB.out.size))
     clear q HDD HA
     have f0 := a3.frozen 0
     have f1 := a3.frozen 1
     have f2 := a3.frozen 2
     have f3 := a3.frozen 3
     have d0 := a3.cell (j := 0) (by omega)
     have d1 := a3.cell (j := 1) (by omega)
     have d2 := a3.cell (j := 2) (by omega)
     have d3 := a3.cell (j := 3) (by omega)
     have HA := Lib.hid a3
     clear a3
     go_wp2
     refine bodyPost_ret (results_word rfl rfl (HA.out.store _)) rfl ⟨rfl, ?_⟩
     exact (((HB.out.setCell (p := ⟨w.heap.size, 0, none⟩) (by simp) _).setCell (p := ⟨w.heap.size, 1, none⟩) (by simp) _).setCell (p := ⟨w.heap.size, 2, none⟩) (by simp) _).setCell (p := ⟨w.heap.size, 3, none⟩) (by simp) _
    ·clear hk hks hz hown aa hB hsz hlt hm DD
     go_wp2_with fail
     refine HDD.out.mono ?_
     rintro e w4 ⟨rfl, q⟩
     have a3 := HA.out.later' q
     have HB := Lib.hid (HB.out.trans (q.mono HB.out.size))
     clear q HDD HA
     have f0 := a3.frozen 0
     have f1 := a3.frozen 1
     have f2 := a3.frozen 2
     have f3 := a3.frozen 3
     have d0 := a3.cell (j := 0) (by omega)
     have d1 := a3.cell (j := 1) (by omega)
     have d2 := a3.cell (j := 2) (by omega)
     have d3 := a3.cell (j := 3) (by omega)
     have HA := Lib.hid a3
     clear a3
     go_wp2
     refine bodyPost_ret (results_word rfl rfl (HA.out.store _)) rfl ⟨rfl, ?_⟩
     exact (((HB.out.setCell (p := ⟨w.heap.size, 0, none⟩) (by simp) _).setCell (p := ⟨w.heap.size, 1, none⟩) (by simp) _).setCell (p := ⟨w.heap.size, 2, none⟩) (by simp) _).setCell (p := ⟨w.heap.size, 3, none⟩) (by simp) _
   ·obtain rfl : z = -1 := by omega
    clear hk hks hz hown aa hB hsz hlt hm DD h32
    go_wp2_with fail
    refine HDD.out.mono ?_
    rintro e w4 ⟨rfl, q⟩
    have a3 := HA.out.later' q
    have HB := Lib.hid (HB.out.trans (q.mono HB.out.size))
    clear q HDD HA
    have f0 := a3.frozen 0
    have f1 := a3.frozen 1
    have f2 := a3.frozen 2
    have f3 := a3.frozen 3
    have d0 := a3.cell (j := 0) (by omega)
    have d1 := a3.cell (j := 1) (by omega)
    have d2 := a3.cell (j := 2) (by omega)
    have d3 := a3.cell (j := 3) (by omega)
    have HA := Lib.hid a3
    clear a3
    go_wp2
    refine bodyPost_ret (results_word rfl rfl (HA.out.store _)) rfl ⟨rfl, ?_⟩
    exact (((HB.out.setCell (p := ⟨w.heap.size, 0, none⟩) (by simp) _).setCell (p := ⟨w.heap.size, 1, none⟩) (by simp) _).setCell (p := ⟨w.heap.size, 2, none⟩) (by simp) _).setCell (p := ⟨w.heap.size, 3, none⟩) (by simp) _
end
section
open Go Go.RowKit
attribute [local go_sem] Oper.semAt_some Grows wide_fn eq4
end
end Go.Proofs.Ytpolmfmlklmmcaa
