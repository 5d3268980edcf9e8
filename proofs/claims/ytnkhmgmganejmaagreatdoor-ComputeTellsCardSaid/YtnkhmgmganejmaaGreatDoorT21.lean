/- Part. -/
import Derived.Deep.OwnRows
import Derived.Test.YtnkhmgmganejmaaGreatDoorT15
import Derived.Test.YtnkhmgmganejmaaGreatDoorT09
set_option maxRecDepth 100000
set_option maxHeartbeats 16000000
namespace Go.Proofs.YtnkhmgmganejmaaGreatDoor
section
open Go Go.RowKit Go.Shelf
attribute [local go_sem] Oper.semAt_some Grows wide_fn
def cut32 (d : Nat → Int) (j : Nat) : Int := if j < 32 then d j else 0
theorem cut32_val (d : Nat → Int) : valI (cut32 d) 32 = valI d 32 := valI_congr _ _ 32 (fun j hj => if_pos hj)
theorem cut32_range (d : Nat → Int) (h : ∀ j, 0 ≤ d j ∧ d j < 256) (j : Nat) : 0 ≤ cut32 d j ∧ cut32 d j < 256 := by
 unfold cut32
 split
 ·exact h j
 ·constructor <;> omega
theorem cut32_none (d : Nat → Int) (j : Nat) (h : 32 ≤ j) : cut32 d j = 0 := if_neg (by omega)
theorem zero_ints (W : World) (n : Nat) : IntsAt (W.alloc (.cells (madeCells #[.int .i64 0] n) 3)) W.heap.size n (fun _ => 0) := by
 refine ⟨madeCells #[.int .i64 0] n, World.alloc_heap_new W _, fun j hj => ?_⟩
 simp [madeCells, hj, Nat.mod_one]
theorem run_mkI (W : World) : (Instr.makeSlice 93 (.int .i64 32) (.int .i64 32)).run Tryz.prog W = .ok (.slice (some ⟨W.heap.size, 0, none⟩) 32 32) (W.alloc (.cells (madeCells #[.int .i64 0] 32) 3)) := by
 obtain ⟨i0, hi, hz0, hz1, hz2⟩ := info_parts infoI
 have h := run_make (P := Tryz.prog) W 93 3 i0 (.int .i64 0) Tryz.underlying93 hi hz0 .i64 .i64 32 32 (by decide) (by decide) (by rw [hz2]; decide) (by decide)
 rw [hz1] at h
 exact h
theorem refAdd_ret (a b : Nat) (ha : W256 a) (hb : W256 b) : Ret Tryz.prog 37 #[wv a, wv b] (wv (wmod (a + b))) := by
 intro w
 have HN : Hid ((valI (cut32 (rD (fun j => (dg a j : Int) + (dg b j : Int)))) 32).toNat = wmod (a + b)) := by
  show _ = _
  rw [cut32_val]
  refine carried_num _ (a + b) 0 ?_
  rw [valI_sum, valI_word a ha, valI_word b hb, Int.natCast_add]
  omega
 have A1 := ((Arr4.word w 24 a).alloc (.cells #[.int .u64 (lim b 0), .int .u64 (lim b 1), .int .u64 (lim b 2), .int .u64 (lim b 3)] 24)).alloc (.cells #[.int .u64 0, .int .u64 0, .int .u64 0, .int .u64 0] 24)
 have A2 := (Arr4.word (w.alloc (.cells #[.int .u64 (lim a 0), .int .u64 (lim a 1), .int .u64 (lim a 2), .int .u64 (lim a 3)] 24)) 24 b).alloc (.cells #[.int .u64 0, .int .u64 0, .int .u64 0, .int .u64 0] 24)
 have A3 := Arr4.mk0' ((w.alloc (.cells #[.int .u64 (lim a 0), .int .u64 (lim a 1), .int .u64 (lim a 2), .int .u64 (lim a 3)] 24)).alloc (.cells #[.int .u64 (lim b 0), .int .u64 (lim b 1), .int .u64 (lim b 2), .int .u64 (lim b 3)] 24)) 24
 have B0 := (((Below.refl _ w).alloc (Nat.le_refl _) (.cells #[.int .u64 (lim a 0), .int .u64 (lim a 1), .int .u64 (lim a 2), .int .u64 (lim a 3)] 24)).alloc (by simp) (.cells #[.int .u64 (lim b 0), .int .u64 (lim b 1), .int .u64 (lim b 2), .int .u64 (lim b 3)] 24)).alloc (by simp; omega) (.cells #[.int .u64 0, .int .u64 0, .int .u64 0, .int .u64 0] 24)
 have s0 : w.heap.size + 3 ≤ (((w.alloc (.cells #[.int .u64 (lim a 0), .int .u64 (lim a 1), .int .u64 (lim a 2), .int .u64 (lim a 3)] 24)).alloc (.cells #[.int .u64 (lim b 0), .int .u64 (lim b 1), .int .u64 (lim b 2), .int .u64 (lim b 3)] 24)).alloc (.cells #[.int .u64 0, .int .u64 0, .int .u64 0, .int .u64 0] 24)).heap.size := by simp
 rw [World.size_alloc] at A2 A3
 rw [World.size_alloc] at A3
 have DA := digits_any a
 have DB := digits_any b
 unfold wv at DA DB ⊢
 clear ha hb
 go_enter Tryz.func37, Tryz.ntmps37
 go_wp2_with fail
 obtain ⟨W0, hW0⟩ : ∃ W0, ((w.alloc (.cells #[.int .u64 (lim a 0), .int .u64 (lim a 1), .int .u64 (lim a 2), .int .u64 (lim a 3)] 24)).alloc (.cells #[.int .u64 (lim b 0), .int .u64 (lim b 1), .int .u64 (lim b 2), .int .u64 (lim b 3)] 24)).alloc (.cells #[.int .u64 0, .int .u64 0, .int .u64 0, .int .u64 0] 24) = W0 := ⟨_, rfl⟩
 rw [hW0] at A1 A2 A3 B0 s0 ⊢
 clear hW0
 refine (DA _).mono ?_
 rintro e w1 ⟨g1, cap1, rfl, hg1, X1, q⟩
 have A2 := A2.later' q
 have A3 := A3.later' q
 have B0 := B0.trans (q.mono B0.size)
 have s1 := q.size
 clear q A1 DA
 obtain ⟨m0, m1, m2, m3⟩ := And.intro (A2.cell (j := 0) (by omega)) (And.intro (A2.cell (j := 1) (by omega)) (And.intro (A2.cell (j := 2) (by omega)) (A2.cell (j := 3) (by omega))))
 go_wp2_with fail
 clear m0 m1 m2 m3
 have hl1 := X1.lt
 refine (DB _).mono ?_
 rintro e w2 ⟨g2, cap2, rfl, hg2, X2, q⟩
 have A3 := A3.later' q
 have X1 := X1.later q
 have B0 := B0.trans (q.mono B0.size)
 clear q A2 DB
 have hne : g2 ≠ g1 := by omega
 have hgb : w.heap.size + 3 ≤ g1 := by omega
 clear hg1 hg2 s0 s1 hl1
 go_wp2
 go_loopw [7] (fun i wr => ∃ k : Nat, k ≤ 32 ∧ i = .int .i64 (k : Int) ∧ Arr4 wr (w.heap.size + 1 + 1) 24 (fun _ => 0) ∧ IntsAt wr g1 32 (fun j => if j < k then (dg a j : Int) + (dg b j : Int) else (dg a j : Int)) ∧ IntsAt wr g2 32 (fun j => (dg b j : Int)) ∧ Below w.heap.size w wr) (fun i _ => 32 - (intOf i).toNat)
 case atStart => exact ⟨0, by omega, rfl, A3, X1.congr (fun j _ => (if_neg (by omega)).symm), X2, B0⟩
 case round =>
  obtain ⟨k, hk, rfl, a3, x1, x2, hB⟩ := hrel
  clear A3 X1 X2 B0
  by_cases hlt : k < 32
  ·have hkI : (k : Int) < 32 := by omega
   have hk0 : (0 : Int) ≤ (k : Int) := by omega
   have da := dg_lt a k
   have db := dg_lt b k
   have HA := Lib.hid a3
   have H1 := Lib.hid x1
   have H2 := Lib.hid x2
   have HB := Lib.hid hB
   have HK := Lib.hid hlt
   have hmx : Tryz.prog.follows .mixedOrders = true := by kernel_rfl
   have e1 : ∀ x : Ext wr, x.w.cell? ⟨g1, k, none⟩ = some (.int .i64 (dg a k : Int)) := fun x => by
    have h := (H1.out.later x.below).cell HK.out
    rw [if_neg (by omega)] at h
    exact h
   have f1 : ∀ x : Ext wr, x.w.frozen? ⟨g1, k, none⟩ = false := fun x => (H1.out.later x.below).frozen k
   have e2 : ∀ x : Ext wr, x.w.cell? ⟨g2, k, none⟩ = some (.int .i64 (dg b k : Int)) := fun x => (H2.out.later x.below).cell HK.out
   have a0 : (0 : Int) ≤ (dg a k : Int) := by omega
   have a9 : (dg a k : Int) < 256 := by omega
   have b0 : (0 : Int) ≤ (dg b k : Int) := by omega
   have b9 : (dg b k : Int) < 256 := by omega
   generalize hda : (dg a k : Int) = u at *
   generalize hdb : (dg b k : Int) = v at *
   have HDA := Lib.hid hda
   have HDB := Lib.hid hdb
   clear hk hlt da db a3 x1 x2 hB hda hdb
   go_wp2
   refine wp_region_mix (C := Grows wr) [some true, some true, some true, some true, some true, some true, some true, some true, some true, some true, some true, some true, none] hmx (by kernel_rfl) (by kernel_rfl) (grows_refl wr) ?_
   simp only [headOf, tailOf]
   repeat (go_big_quiet_step (fail))
   refine wpQuiet_nil ?_
   rintro _ ⟨x, rfl⟩
   have N1 := Lib.hid ((HA.out.later' x.below).other (p := ⟨g1, k, none⟩) (show w.heap.size + 1 + 1 ≠ g1 by omega) (.int .i64 (u + v)))
   have N2 := Lib.hid ((H1.out.later x.below).set HK.out (u + v))
   have N3 := Lib.hid ((H2.out.later x.below).other (p := ⟨g1, k, none⟩) hne (.int .i64 (u + v)))
   have N4 := Lib.hid ((HB.out.trans (x.below.mono HB.out.size)).setCell (p := ⟨g1, k, none⟩) (show w.heap.size ≤ g1 by omega) (.int .i64 (u + v)))
   go_wp2
   rw [calmPost_normal]
   go_wp2
   go_roundw
   case rel =>
    refine ⟨k + 1, HK.out, by simp, N1.out, N2.out.congr (fun j _ => ?_), N3.out, N4.out⟩
    show (if j = k then u + v else if j < k then (dg a j : Int) + (dg b j : Int) else (dg a j : Int)) = if j < k + 1 then (dg a j : Int) + (dg b j : Int) else (dg a j : Int)
    by_cases h1 : j = k
    ·subst h1
     rw [if_pos rfl, if_pos (by omega), HDA.out, HDB.out]
    ·rw [if_neg h1]
     by_cases h2 : j < k
     ·rw [if_pos h2, if_pos (by omega)]
     ·rw [if_neg h2, if_neg (by omega)]
   case measure => have := HK.out; simp [intOf]; omega
  ·obtain rfl : k = 32 := by omega
   have x1 := x1.congr (e := fun j => (dg a j : Int) + (dg b j : Int)) (fun j hj => if_pos hj)
   have hd : ∀ j, -4194304 ≤ (dg a j : Int) + (dg b j : Int) ∧ (dg a j : Int) + (dg b j : Int) ≤ 4194304 := fun j => by have := dg_lt a j; have := dg_lt b j; constructor <;> omega
   have HA := Lib.hid a3
   have HB := Lib.hid hB
   have CC := carried_any (fun j => (dg a j : Int) + (dg b j : Int)) hd g1 cap1 wr x1
   clear hk hlt a3 x1 hB x2 hd
   go_wp2_with fail
   refine CC.mono ?_
   rintro e w3 ⟨g4, cap4, rfl, hg4, X4, q⟩
   have a3 := HA.out.later' q
   have hB := HB.out.trans (q.mono HB.out.size)
   have DD := fromDigits_any (cut32 (rD (fun j => (dg a j : Int) + (dg b j : Int)))) (cut32_range _ (rD_range _)) 32 g4 cap4 (by omega) (fun j hj => cut32_none _ j hj) w3 (X4.congr (fun j hj => (if_pos hj).symm))
   rw [HN.out] at DD
   clear q CC HA HB X4
   go_wp2_with fail
   refine DD.mono ?_
   rintro e w4 ⟨rfl, q⟩
   have a3 := a3.later' q
   have HB := Lib.hid (hB.trans (q.mono hB.size))
   clear q DD hB HN
   have f0 := a3.frozen 0
   have f1 := a3.frozen 1
   have f2 := a3.frozen 2
   have f3 := a3.frozen 3
   have d0 := a3.cell (j := 0) (by omega)
   have d1 := a3.cell (j := 1) (by omega)
   have d2 := a3.cell (j := 2) (by omega)
   have d3 := a3.cell (j := 3) (by omega)
   have HA := Lib.hid a3
   clear a3
   unfold wv
   go_wp2
   refine bodyPost_ret (results_word rfl rfl (HA.out.store _)) rfl ⟨rfl, ?_⟩
   exact (((HB.out.setCell (p := ⟨w.heap.size + 1 + 1, 0, none⟩) (by simp; omega) _).setCell (p := ⟨w.heap.size + 1 + 1, 1, none⟩) (by simp; omega) _).setCell (p := ⟨w.heap.size + 1 + 1, 2, none⟩) (by simp; omega) _).setCell (p := ⟨w.heap.size + 1 + 1, 3, none⟩) (by simp; omega) _
theorem refSub_ret (a b : Nat) (ha : W256 a) (hb : W256 b) : Ret Tryz.prog 39 #[wv a, wv b] (wv (wsub a b)) := by
 intro w
 have HN : Hid ((valI (cut32 (rD (fun j => (dg a j : Int) - (dg b j : Int)))) 32).toNat = wsub a b) := by
  show _ = _
  rw [cut32_val]
  unfold wsub
  refine carried_num _ _ (-1) ?_
  rw [valI_sub, valI_word a ha, valI_word b hb]
  unfold W256 at hb
  omega
 have A1 := ((Arr4.word w 24 a).alloc (.cells #[.int .u64 (lim b 0), .int .u64 (lim b 1), .int .u64 (lim b 2), .int .u64 (lim b 3)] 24)).alloc (.cells #[.int .u64 0, .int .u64 0, .int .u64 0, .int .u64 0] 24)
 have A2 := (Arr4.word (w.alloc (.cells #[.int .u64 (lim a 0), .int .u64 (lim a 1), .int .u64 (lim a 2), .int .u64 (lim a 3)] 24)) 24 b).alloc (.cells #[.int .u64 0, .int .u64 0, .int .u64 0, .int .u64 0] 24)
 have A3 := Arr4.mk0' ((w.alloc (.cells #[.int .u64 (lim a 0), .int .u64 (lim a 1), .int .u64 (lim a 2), .int .u64 (lim a 3)] 24)).alloc (.cells #[.int .u64 (lim b 0), .int .u64 (lim b 1), .int .u64 (lim b 2), .int .u64 (lim b 3)] 24)) 24
 have B0 := (((Below.refl _ w).alloc (Nat.le_refl _) (.cells #[.int .u64 (lim a 0), .int .u64 (lim a 1), .int .u64 (lim a 2), .int .u64 (lim a 3)] 24)).alloc (by simp) (.cells #[.int .u64 (lim b 0), .int .u64 (lim b 1), .int .u64 (lim b 2), .int .u64 (lim b 3)] 24)).alloc (by simp; omega) (.cells #[.int .u64 0, .int .u64 0, .int .u64 0, .int .u64 0] 24)
 have s0 : w.heap.size + 3 ≤ (((w.alloc (.cells #[.int .u64 (lim a 0), .int .u64 (lim a 1), .int .u64 (lim a 2), .int .u64 (lim a 3)] 24)).alloc (.cells #[.int .u64 (lim b 0), .int .u64 (lim b 1), .int .u64 (lim b 2), .int .u64 (lim b 3)] 24)).alloc (.cells #[.int .u64 0, .int .u64 0, .int .u64 0, .int .u64 0] 24)).heap.size := by simp
 rw [World.size_alloc] at A2 A3
 rw [World.size_alloc] at A3
 have DA := digits_any a
 have DB := digits_any b
 unfold wv at DA DB ⊢
 clear ha hb
 go_enter Tryz.func39, Tryz.ntmps39
 go_wp2_with fail
 obtain ⟨W0, hW0⟩ : ∃ W0, ((w.alloc (.cells #[.int .u64 (lim a 0), .int .u64 (lim a 1), .int .u64 (lim a 2), .int .u64 (lim a 3)] 24)).alloc (.cells #[.int .u64 (lim b 0), .int .u64 (lim b 1), .int .u64 (lim b 2), .int .u64 (lim b 3)] 24)).alloc (.cells #[.int .u64 0, .int .u64 0, .int .u64 0, .int .u64 0] 24) = W0 := ⟨_, rfl⟩
 rw [hW0] at A1 A2 A3 B0 s0 ⊢
 clear hW0
 refine (DA _).mono ?_
 rintro e w1 ⟨g1, cap1, rfl, hg1, X1, q⟩
 have A2 := A2.later' q
 have A3 := A3.later' q
 have B0 := B0.trans (q.mono B0.size)
 have s1 := q.size
 clear q A1 DA
 obtain ⟨m0, m1, m2, m3⟩ := And.intro (A2.cell (j := 0) (by omega)) (And.intro (A2.cell (j := 1) (by omega)) (And.intro (A2.cell (j := 2) (by omega)) (A2.cell (j := 3) (by omega))))
 go_wp2_with fail
 clear m0 m1 m2 m3
 have hl1 := X1.lt
 refine (DB _).mono ?_
 rintro e w2 ⟨g2, cap2, rfl, hg2, X2, q⟩
 have A3 := A3.later' q
 have X1 := X1.later q
 have B0 := B0.trans (q.mono B0.size)
 clear q A2 DB
 have hne : g2 ≠ g1 := by omega
 have hgb : w.heap.size + 3 ≤ g1 := by omega
 clear hg1 hg2 s0 s1 hl1
 go_wp2
 go_loopw [7] (fun i wr => ∃ k : Nat, k ≤ 32 ∧ i = .int .i64 (k : Int) ∧ Arr4 wr (w.heap.size + 1 + 1) 24 (fun _ => 0) ∧ IntsAt wr g1 32 (fun j => if j < k then (dg a j : Int) - (dg b j : Int) else (dg a j : Int)) ∧ IntsAt wr g2 32 (fun j => (dg b j : Int)) ∧ Below w.heap.size w wr) (fun i _ => 32 - (intOf i).toNat)
 case atStart => exact ⟨0, by omega, rfl, A3, X1.congr (fun j _ => (if_neg (by omega)).symm), X2, B0⟩
 case round =>
  obtain ⟨k, hk, rfl, a3, x1, x2, hB⟩ := hrel
  clear A3 X1 X2 B0
  by_cases hlt : k < 32
  ·have hkI : (k : Int) < 32 := by omega
   have hk0 : (0 : Int) ≤ (k : Int) := by omega
   have da := dg_lt a k
   have db := dg_lt b k
   have HA := Lib.hid a3
   have H1 := Lib.hid x1
   have H2 := Lib.hid x2
   have HB := Lib.hid hB
   have HK := Lib.hid hlt
   have hmx : Tryz.prog.follows .mixedOrders = true := by kernel_rfl
   have e1 : ∀ x : Ext wr, x.w.cell? ⟨g1, k, none⟩ = some (.int .i64 (dg a k : Int)) := fun x => by
    have h := (H1.out.later x.below).cell HK.out
    rw [if_neg (by omega)] at h
    exact h
   have f1 : ∀ x : Ext wr, x.w.frozen? ⟨g1, k, none⟩ = false := fun x => (H1.out.later x.below).frozen k
   have e2 : ∀ x : Ext wr, x.w.cell? ⟨g2, k, none⟩ = some (.int .i64 (dg b k : Int)) := fun x => (H2.out.later x.below).cell HK.out
   have a0 : (0 : Int) ≤ (dg a k : Int) := by omega
   have a9 : (dg a k : Int) < 256 := by omega
   have b0 : (0 : Int) ≤ (dg b k : Int) := by omega
   have b9 : (dg b k : Int) < 256 := by omega
   generalize hda : (dg a k : Int) = u at *
   generalize hdb : (dg b k : Int) = v at *
   have HDA := Lib.hid hda
   have HDB := Lib.hid hdb
   clear hk hlt da db a3 x1 x2 hB hda hdb
   go_wp2
   refine wp_region_mix (C := Grows wr) [some true, some true, some true, some true, some true, some true, some true, some true, some true, some true, some true, some true, none] hmx (by kernel_rfl) (by kernel_rfl) (grows_refl wr) ?_
   simp only [headOf, tailOf]
   repeat (go_big_quiet_step (fail))
   refine wpQuiet_nil ?_
   rintro _ ⟨x, rfl⟩
   have N1 := Lib.hid ((HA.out.later' x.below).other (p := ⟨g1, k, none⟩) (show w.heap.size + 1 + 1 ≠ g1 by omega) (.int .i64 (u - v)))
   have N2 := Lib.hid ((H1.out.later x.below).set HK.out (u - v))
   have N3 := Lib.hid ((H2.out.later x.below).other (p := ⟨g1, k, none⟩) hne (.int .i64 (u - v)))
   have N4 := Lib.hid ((HB.out.trans (x.below.mono HB.out.size)).setCell (p := ⟨g1, k, none⟩) (show w.heap.size ≤ g1 by omega) (.int .i64 (u - v)))
   go_wp2
   rw [calmPost_normal]
   go_wp2
   go_roundw
   case rel =>
    refine ⟨k + 1, HK.out, by simp, N1.out, N2.out.congr (fun j _ => ?_), N3.out, N4.out⟩
    show (if j = k then u - v else if j < k then (dg a j : Int) - (dg b j : Int) else (dg a j : Int)) = if j < k + 1 then (dg a j : Int) - (dg b j : Int) else (dg a j : Int)
    by_cases h1 : j = k
    ·subst h1
     rw [if_pos rfl, if_pos (by omega), HDA.out, HDB.out]
    ·rw [if_neg h1]
     by_cases h2 : j < k
     ·rw [if_pos h2, if_pos (by omega)]
     ·rw [if_neg h2, if_neg (by omega)]
   case measure => have := HK.out; simp [intOf]; omega
  ·obtain rfl : k = 32 := by omega
   have x1 := x1.congr (e := fun j => (dg a j : Int) - (dg b j : Int)) (fun j hj => if_pos hj)
   have hd : ∀ j, -4194304 ≤ (dg a j : Int) - (dg b j : Int) ∧ (dg a j : Int) - (dg b j : Int) ≤ 4194304 := fun j => by have := dg_lt a j; have := dg_lt b j; constructor <;> omega
   have HA := Lib.hid a3
   have HB := Lib.hid hB
   have CC := carried_any (fun j => (dg a j : Int) - (dg b j : Int)) hd g1 cap1 wr x1
   clear hk hlt a3 x1 hB x2 hd
   go_wp2_with fail
   refine CC.mono ?_
   rintro e w3 ⟨g4, cap4, rfl, hg4, X4, q⟩
   have a3 := HA.out.later' q
   have hB := HB.out.trans (q.mono HB.out.size)
   have DD := fromDigits_any (cut32 (rD (fun j => (dg a j : Int) - (dg b j : Int)))) (cut32_range _ (rD_range _)) 32 g4 cap4 (by omega) (fun j hj => cut32_none _ j hj) w3 (X4.congr (fun j hj => (if_pos hj).symm))
   rw [HN.out] at DD
   clear q CC HA HB X4
   go_wp2_with fail
   refine DD.mono ?_
   rintro e w4 ⟨rfl, q⟩
   have a3 := a3.later' q
   have HB := Lib.hid (hB.trans (q.mono hB.size))
   clear q DD hB HN
   have f0 := a3.frozen 0
   have f1 := a3.frozen 1
   have f2 := a3.frozen 2
   have f3 := a3.frozen 3
   have d0 := a3.cell (j := 0) (by omega)
   have d1 := a3.cell (j := 1) (by omega)
   have d2 := a3.cell (j := 2) (by omega)
   have d3 := a3.cell (j := 3) (by omega)
   have HA := Lib.hid a3
   clear a3
   unfold wv
   go_wp2
   refine bodyPost_ret (results_word rfl rfl (HA.out.store _)) rfl ⟨rfl, ?_⟩
   exact (((HB.out.setCell (p := ⟨w.heap.size + 1 + 1, 0, none⟩) (by simp; omega) _).setCell (p := ⟨w.heap.size + 1 + 1, 1, none⟩) (by simp; omega) _).setCell (p := ⟨w.heap.size + 1 + 1, 2, none⟩) (by simp; omega) _).setCell (p := ⟨w.heap.size + 1 + 1, 3, none⟩) (by simp; omega) _
def MulOk (a b i k : Nat) (z : Nat → Int) : Prop :=
 (∀ j, 0 ≤ z j ∧ z j ≤ ((i : Int) + 1) * 65025 ∧ (i + k ≤ j → z j ≤ (i : Int) * 65025)) ∧
  ∃ q : Int, valI z 32 = valI (fun j => (dg a j : Int)) i * (b : Int) + q * 115792089237316195423570985008687907853269984665640564039457584007913129639936 + (dg a i : Int) * 256 ^ i * valI (fun j => (dg b j : Int)) k
theorem mulOk_start (a b : Nat) : MulOk a b 0 0 (fun _ => 0) := by
 refine ⟨fun j => ⟨Int.le_refl 0, by show (0 : Int) ≤ _; omega, fun _ => by simp⟩, 0, ?_⟩
 rw [valI_zero]
 simp [valI]
theorem mulOk_step (a b i k : Nat) (z : Nat → Int) (h : MulOk a b i k z) (hk : i + k < 32) : MulOk a b i (k + 1) (fun j => if j = i + k then z (i + k) + (dg a i : Int) * (dg b k : Int) else z j) := by
 obtain ⟨h1, q, h2⟩ := h
 have da := dg_lt a i
 have db := dg_lt b k
 have hp : (dg a i : Int) * (dg b k : Int) ≤ 255 * 255 := Int.mul_le_mul (by omega) (by omega) (by omega) (by omega)
 have hp0 : 0 ≤ (dg a i : Int) * (dg b k : Int) := Int.mul_nonneg (by omega) (by omega)
 refine ⟨fun j => ?_, q, ?_⟩
 ·obtain ⟨g1, g2, g3⟩ := h1 j
  show 0 ≤ (if j = i + k then _ else _) ∧ (if j = i + k then _ else _) ≤ _ ∧ (_ → (if j = i + k then _ else _) ≤ _)
  by_cases e : j = i + k
  ·subst e
   rw [if_pos rfl]
   have := g3 (Nat.le_refl _)
   refine ⟨by omega, by omega, fun h => by omega⟩
  ·rw [if_neg e]
   exact ⟨g1, g2, fun h => g3 (by omega)⟩
 ·rw [valI_set z (i + k) _ 32 hk, h2, valI, Int.pow_add]
  generalize (256 : Int) ^ i = A
  generalize (256 : Int) ^ k = B
  generalize (dg a i : Int) = x
  generalize (dg b k : Int) = y
  generalize valI (fun j => (dg b j : Int)) k = V
  rw [show z (i + k) + x * y - z (i + k) = x * y by omega, Int.mul_add, show x * y * (A * B) = x * A * (y * B) by
   rw [Int.mul_assoc x y, Int.mul_assoc x A, ← Int.mul_assoc y A B, Int.mul_comm y A, Int.mul_assoc A y B]]
  omega
theorem mulOk_row (a b i k : Nat) (z : Nat → Int) (hb : W256 b) (h : MulOk a b i k z) (hk : i + k = 32) : MulOk a b (i + 1) 0 z := by
 obtain ⟨h1, q, h2⟩ := h
 obtain ⟨q', hq⟩ := mul_end a b i hb (by omega) (dg a i : Int)
 refine ⟨fun j => ?_, q + q', ?_⟩
 ·obtain ⟨g1, g2, _⟩ := h1 j
  refine ⟨g1, by rw [Int.natCast_add]; omega, fun _ => by rw [Int.natCast_add]; omega⟩
 ·obtain rfl : k = 32 - i := by omega
  rw [h2, hq, valI]
  simp only [valI, Int.mul_zero, Int.add_zero]
  generalize (256 : Int) ^ i = A
  generalize (dg a i : Int) = x
  generalize valI (fun j => (dg a j : Int)) i = V
  rw [Int.add_mul, Int.add_mul]
  omega
theorem mulOk_end (a b : Nat) (ha : W256 a) (z : Nat → Int) (h : MulOk a b 32 0 z) : (∀ j, -4194304 ≤ z j ∧ z j ≤ 4194304) ∧ (valI (rD z) 32).toNat = wmod (a * b) := by
 obtain ⟨h1, q, h2⟩ := h
 refine ⟨fun j => ?_, carried_num z (a * b) q ?_⟩
 ·obtain ⟨g1, g2, _⟩ := h1 j
  constructor <;> omega
 ·rw [h2, valI_word a ha, Int.natCast_mul]
  simp [valI]
theorem refMul_ret (a b : Nat) (ha : W256 a) (hb : W256 b) : Ret Tryz.prog 38 #[wv a, wv b] (wv (wmod (a * b))) := by
 intro w
 have HEND := Lib.hid (mulOk_end a b ha)
 have HROW := Lib.hid (fun i k z => mulOk_row a b i k z hb)
 have A1 := ((Arr4.word w 24 a).alloc (.cells #[.int .u64 (lim b 0), .int .u64 (lim b 1), .int .u64 (lim b 2), .int .u64 (lim b 3)] 24)).alloc (.cells #[.int .u64 0, .int .u64 0, .int .u64 0, .int .u64 0] 24)
 have A2 := (Arr4.word (w.alloc (.cells #[.int .u64 (lim a 0), .int .u64 (lim a 1), .int .u64 (lim a 2), .int .u64 (lim a 3)] 24)) 24 b).alloc (.cells #[.int .u64 0, .int .u64 0, .int .u64 0, .int .u64 0] 24)
 have A3 := Arr4.mk0' ((w.alloc (.cells #[.int .u64 (lim a 0), .int .u64 (lim a 1), .int .u64 (lim a 2), .int .u64 (lim a 3)] 24)).alloc (.cells #[.int .u64 (lim b 0), .int .u64 (lim b 1), .int .u64 (lim b 2), .int .u64 (lim b 3)] 24)) 24
 have B0 := (((Below.refl _ w).alloc (Nat.le_refl _) (.cells #[.int .u64 (lim a 0), .int .u64 (lim a 1), .int .u64 (lim a 2), .int .u64 (lim a 3)] 24)).alloc (by simp) (.cells #[.int .u64 (lim b 0), .int .u64 (lim b 1), .int .u64 (lim b 2), .int .u64 (lim b 3)] 24)).alloc (by simp; omega) (.cells #[.int .u64 0, .int .u64 0, .int .u64 0, .int .u64 0] 24)
 have s0 : w.heap.size + 3 ≤ (((w.alloc (.cells #[.int .u64 (lim a 0), .int .u64 (lim a 1), .int .u64 (lim a 2), .int .u64 (lim a 3)] 24)).alloc (.cells #[.int .u64 (lim b 0), .int .u64 (lim b 1), .int .u64 (lim b 2), .int .u64 (lim b 3)] 24)).alloc (.cells #[.int .u64 0, .int .u64 0, .int .u64 0, .int .u64 0] 24)).heap.size := by simp
 rw [World.size_alloc] at A2 A3
 rw [World.size_alloc] at A3
 have DA := digits_any a
 have DB := digits_any b
 have hmk := run_mkI
 unfold wv at DA DB ⊢
 clear ha hb
 go_enter Tryz.func38, Tryz.ntmps38
 go_wp2_with fail
 obtain ⟨W0, hW0⟩ : ∃ W0, ((w.alloc (.cells #[.int .u64 (lim a 0), .int .u64 (lim a 1), .int .u64 (lim a 2), .int .u64 (lim a 3)] 24)).alloc (.cells #[.int .u64 (lim b 0), .int .u64 (lim b 1), .int .u64 (lim b 2), .int .u64 (lim b 3)] 24)).alloc (.cells #[.int .u64 0, .int .u64 0, .int .u64 0, .int .u64 0] 24) = W0 := ⟨_, rfl⟩
 rw [hW0] at A1 A2 A3 B0 s0 ⊢
 clear hW0
 refine (DA _).mono ?_
 rintro e w1 ⟨g1, cap1, rfl, hg1, X1, q⟩
 have A2 := A2.later' q
 have A3 := A3.later' q
 have B0 := B0.trans (q.mono B0.size)
 have s1 := q.size
 clear q A1 DA
 obtain ⟨m0, m1, m2, m3⟩ := And.intro (A2.cell (j := 0) (by omega)) (And.intro (A2.cell (j := 1) (by omega)) (And.intro (A2.cell (j := 2) (by omega)) (A2.cell (j := 3) (by omega))))
 go_wp2_with fail
 clear m0 m1 m2 m3
 have hl1 := X1.lt
 refine (DB _).mono ?_
 rintro e w2 ⟨g2, cap2, rfl, hg2, X2, q⟩
 have A3 := (A3.later' q).alloc (.cells (madeCells #[.int .i64 0] 32) 3)
 have hl2 := X2.lt
 have X1 := (X1.later q).alloc (.cells (madeCells #[.int .i64 0] 32) 3)
 have X2 := X2.alloc (.cells (madeCells #[.int .i64 0] 32) 3)
 have X3 := zero_ints w2 32
 have B0 := B0.trans (q.mono B0.size)
 have s2 := q.size
 have B0 := B0.alloc B0.size (.cells (madeCells #[.int .i64 0] 32) 3)
 clear q A2 DB
 have hn1 : g1 ≠ w2.heap.size := by omega
 have hn2 : g2 ≠ w2.heap.size := by omega
 have hgb : w.heap.size + 3 ≤ w2.heap.size := by omega
 clear hg1 hg2 s0 s1 s2 hl1 hl2
 go_wp2
 obtain ⟨W3, hW3⟩ : ∃ W3, w2.alloc (.cells (madeCells #[.int .i64 0] 32) 3) = W3 := ⟨_, rfl⟩
 rw [hW3] at A3 X1 X2 X3 B0 ⊢
 clear hW3 hmk
 generalize w2.heap.size = g3 at *
 go_loopw [8] (fun i wr => ∃ (k : Nat) (z : Nat → Int), k ≤ 32 ∧ i = .int .i64 (k : Int) ∧ MulOk a b k 0 z ∧ Arr4 wr (w.heap.size + 1 + 1) 24 (fun _ => 0) ∧ IntsAt wr g1 32 (fun j => (dg a j : Int)) ∧ IntsAt wr g2 32 (fun j => (dg b j : Int)) ∧ IntsAt wr g3 32 z ∧ Below w.heap.size w wr) (fun i _ => 32 - (intOf i).toNat)
 case atStart => exact ⟨0, _, by omega, rfl, mulOk_start a b, A3, X1, X2, X3, B0⟩
 case round =>
  obtain ⟨i, z, hi, rfl, hok, a3, x1, x2, x3, hB⟩ := hrel
  clear A3 X1 X2 X3 B0
  by_cases hlt : i < 32
  ·have hiI : (i : Int) < 32 := by omega
   have hi0 : (0 : Int) ≤ (i : Int) := by omega
   have HI := Lib.hid hlt
   have HOK := Lib.hid hok
   clear hi hlt hok
   obtain ⟨wo, rfl⟩ : ∃ wo : World, wo = wr := ⟨_, rfl⟩
   go_wp2
   go_loopw [9] (fun kk wr => ∃ (k : Nat) (z : Nat → Int), i + k ≤ 32 ∧ kk = .int .i64 (k : Int) ∧ MulOk a b i k z ∧ Arr4 wr (w.heap.size + 1 + 1) 24 (fun _ => 0) ∧ IntsAt wr g1 32 (fun j => (dg a j : Int)) ∧ IntsAt wr g2 32 (fun j => (dg b j : Int)) ∧ IntsAt wr g3 32 z ∧ Below w.heap.size w wr) (fun kk _ => 32 - (intOf kk).toNat)
   case atStart => exact ⟨0, z, by have := HI.out; omega, rfl, HOK.out, a3, x1, x2, x3, hB⟩
   case round =>
    clear a3 x1 x2 x3 hB HOK
    obtain ⟨k, z, hk, rfl, hok, a3, x1, x2, x3, hB⟩ := hrel
    by_cases hlt : i + k < 32
    ·have hk0 : (0 : Int) ≤ (k : Int) := by omega
     have hkI : (k : Int) < 32 := by omega
     have hik : (i : Int) + (k : Int) < 32 := by omega
     have hik0 : (0 : Int) ≤ (i : Int) + (k : Int) := by omega
     have hst := Lib.hid (mulOk_step a b i k z hok hlt)
     obtain ⟨z0, z1, z2⟩ := hok.1 (i + k)
     have da := dg_lt a i
     have db := dg_lt b k
     have hp : (dg a i : Int) * (dg b k : Int) ≤ 255 * 255 := Int.mul_le_mul (by omega) (by omega) (by omega) (by omega)
     have hp0 : 0 ≤ (dg a i : Int) * (dg b k : Int) := Int.mul_nonneg (by omega) (by omega)
     have HA := Lib.hid a3
     have H1 := Lib.hid x1
     have H2 := Lib.hid x2
     have H3 := Lib.hid x3
     have HB := Lib.hid hB
     have HK := Lib.hid hlt
     have hmx : Tryz.prog.follows .mixedOrders = true := by kernel_rfl
     have e1 : ∀ x : Ext wr, x.w.cell? ⟨g1, i, none⟩ = some (.int .i64 (dg a i : Int)) := fun x => (H1.out.later x.below).cell HI.out
     have e2 : ∀ x : Ext wr, x.w.cell? ⟨g2, k, none⟩ = some (.int .i64 (dg b k : Int)) := fun x => (H2.out.later x.below).cell (by have := HK.out; omega)
     have e3 : ∀ x : Ext wr, x.w.cell? ⟨g3, i + k, none⟩ = some (.int .i64 (z (i + k))) := fun x => (H3.out.later x.below).cell HK.out
     have f3 : ∀ x : Ext wr, x.w.frozen? ⟨g3, i + k, none⟩ = false := fun x => (H3.out.later x.below).frozen (i + k)
     have a0 : (0 : Int) ≤ (dg a i : Int) := by omega
     have a9 : (dg a i : Int) < 256 := by omega
     have b0 : (0 : Int) ≤ (dg b k : Int) := by omega
     have b9 : (dg b k : Int) < 256 := by omega
     have hz9 : z (i + k) ≤ 2145825 := by omega
     have hnn : ((i : Int) + (k : Int)).toNat = i + k := by omega
     have hcc : ((i + k : Nat) : Int) = (i : Int) + (k : Int) := Int.natCast_add i k
     generalize (dg a i : Int) = u at *
     generalize (dg b k : Int) = v at *
     generalize z (i + k) = zz at *
     generalize hpp : u * v = pp at *
     clear hk hlt da db hok a3 x1 x2 x3 hB z1 z2
     go_wp2
     refine wp_region_mix (C := Grows wr) [some true, some true, some true, some true, some true, some true, some true, some true, some true, some true, some true, some true, some true, some true, some true, some true, some true, some true, some true, some true, some true, none] hmx (by kernel_rfl) (by kernel_rfl) (grows_refl wr) ?_
     simp only [headOf, tailOf]
     repeat (go_big_quiet_step (fail))
     refine wpQuiet_nil ?_
     rintro _ ⟨x, rfl⟩
     have N1 := Lib.hid ((HA.out.later' x.below).other (p := ⟨g3, i + k, none⟩) (show w.heap.size + 1 + 1 ≠ g3 by omega) (.int .i64 (zz + pp)))
     have N2 := Lib.hid ((H1.out.later x.below).other (p := ⟨g3, i + k, none⟩) hn1 (.int .i64 (zz + pp)))
     have N3 := Lib.hid ((H2.out.later x.below).other (p := ⟨g3, i + k, none⟩) hn2 (.int .i64 (zz + pp)))
     have N4 := Lib.hid ((H3.out.later x.below).set HK.out (zz + pp))
     have N5 := Lib.hid ((HB.out.trans (x.below.mono HB.out.size)).setCell (p := ⟨g3, i + k, none⟩) (show w.heap.size ≤ g3 by omega) (.int .i64 (zz + pp)))
     go_wp2
     rw [calmPost_normal]
     go_wp2
     go_roundw
     case rel => exact ⟨k + 1, _, by have := HK.out; omega, by simp, hst.out, N1.out, N2.out, N3.out, N4.out, N5.out⟩
     case measure => have := HK.out; simp [intOf]; omega
    ·have hik : i + k = 32 := by omega
     have HOK := Lib.hid (HROW.out i k z hok hik)
     have hikI : (i : Int) + (k : Int) = 32 := by omega
     have hk0 : (0 : Int) ≤ (k : Int) := by omega
     have hkI : (k : Int) ≤ 32 := by omega
     have N1 := Lib.hid a3
     have N2 := Lib.hid x1
     have N3 := Lib.hid x2
     have N4 := Lib.hid x3
     have N5 := Lib.hid hB
     clear hk hlt hik hok a3 x1 x2 x3 hB
     go_wp2
     go_roundw
     case rel => exact ⟨i + 1, z, HI.out, by simp, HOK.out, N1.out, N2.out, N3.out, N4.out, N5.out⟩
     case measure => have := HI.out; simp [intOf]; omega
  ·obtain rfl : i = 32 := by omega
   obtain ⟨hd, hnum⟩ := HEND.out z hok
   have HN : Hid ((valI (cut32 (rD z)) 32).toNat = wmod (a * b)) := by show _ = _; rw [cut32_val]; exact hnum
   clear hi hok hnum HROW HEND
   have HA := Lib.hid a3
   have HB := Lib.hid hB
   have CC := carried_any z hd g3 32 wr x3
   clear hlt a3 x3 hB x1 x2 hd
   go_wp2_with fail
   refine CC.mono ?_
   rintro e w3 ⟨g4, cap4, rfl, hg4, X4, q⟩
   have a3 := HA.out.later' q
   have hB := HB.out.trans (q.mono HB.out.size)
   have DD := fromDigits_any (cut32 (rD z)) (cut32_range _ (rD_range _)) 32 g4 cap4 (by omega) (fun j hj => cut32_none _ j hj) w3 (X4.congr (fun j hj => (if_pos hj).symm))
   rw [HN.out] at DD
   clear q CC HA HB X4
   go_wp2_with fail
   refine DD.mono ?_
   rintro e w4 ⟨rfl, q⟩
   have a3 := a3.later' q
   have HB := Lib.hid (hB.trans (q.mono hB.size))
   clear q DD hB HN
   have f0 := a3.frozen 0
   have f1 := a3.frozen 1
   have f2 := a3.frozen 2
   have f3 := a3.frozen 3
   have d0 := a3.cell (j := 0) (by omega)
   have d1 := a3.cell (j := 1) (by omega)
   have d2 := a3.cell (j := 2) (by omega)
   have d3 := a3.cell (j := 3) (by omega)
   have HA := Lib.hid a3
   clear a3
   unfold wv
   go_wp2
   refine bodyPost_ret (results_word rfl rfl (HA.out.store _)) rfl ⟨rfl, ?_⟩
   exact (((HB.out.setCell (p := ⟨w.heap.size + 1 + 1, 0, none⟩) (by simp; omega) _).setCell (p := ⟨w.heap.size + 1 + 1, 1, none⟩) (by simp; omega) _).setCell (p := ⟨w.heap.size + 1 + 1, 2, none⟩) (by simp; omega) _).setCell (p := ⟨w.heap.size + 1 + 1, 3, none⟩) (by simp; omega) _
end
section
open Go Go.RowKit
attribute [local go_sem] Oper.semAt_some Grows wide_fn eq4

end
section
open Go Go.RowKit
attribute [local go_sem] Oper.semAt_some Grows
def bt (a i : Nat) : Nat := a / 2 ^ i % 2
theorem bt_lt (a i : Nat) : bt a i < 2 := Nat.mod_lt _ (by decide)
theorem bt_dg (a q r : Nat) (hr : r < 8) : dg a q / 2 ^ r % 2 = bt a (8 * q + r) := by
 unfold dg bt
 rw [Nat.pow_add, Nat.pow_mul, show (2 : Nat) ^ 8 = 256 by decide, ← Nat.div_div_eq_div_mul]
 generalize a / 256 ^ q = x
 rcases (show r = 0 ∨ r = 1 ∨ r = 2 ∨ r = 3 ∨ r = 4 ∨ r = 5 ∨ r = 6 ∨ r = 7 by omega) with rfl | rfl | rfl | rfl | rfl | rfl | rfl | rfl <;> omega
def hvN (v m : Nat) : Nat := v / 2 ^ m
theorem hvN_zero (v : Nat) : hvN v 0 = v := by unfold hvN; simp
theorem hvN_succ (v m : Nat) : hvN v (m + 1) = hvN v m / 2 := by unfold hvN; rw [Nat.pow_succ, ← Nat.div_div_eq_div_mul]
theorem hvN_le (v m : Nat) : hvN v m ≤ v := Nat.div_le_self _ _
def btV (a n : Nat) : List Value := (List.range n).map fun j => Value.int .i64 (bt a j : Int)
theorem btV_succ (a n : Nat) : btV a (n + 1) = btV a n ++ [.int .i64 (bt a n : Int)] := by simp [btV, List.range_succ]
theorem bits_any (a : Nat) (w : World) : Calls Tryz.prog 82 #[wv a] w fun e w' => ∃ g cap, e = .returned (.slice (some ⟨g, 0, none⟩) 256 cap) ∧ w.heap.size ≤ g ∧ IntsAt w' g 256 (fun j => (bt a j : Int)) ∧ Below w.heap.size w w' := by
 have A0 := Arr4.word w 24 a
 have B0 := (Below.refl _ w).alloc (Nat.le_refl _) (.cells #[.int .u64 (lim a 0), .int .u64 (lim a 1), .int .u64 (lim a 2), .int .u64 (lim a 3)] 24)
 have HC := Lib.hid (digits_any a)
 unfold wv at HC ⊢
 go_enter Tryz.func82, Tryz.ntmps82
 have k0 := A0.cell (j := 0) (by omega)
 have k1 := A0.cell (j := 1) (by omega)
 have k2 := A0.cell (j := 2) (by omega)
 have k3 := A0.cell (j := 3) (by omega)
 go_wp2_with fail
 clear k0 k1 k2 k3
 refine (HC.out _).mono ?_
 rintro e w1 ⟨g, cap, rfl, hg, hx, q⟩
 have B1 := B0.trans (q.mono B0.size)
 have R0 := World.ownsRow_nil w1 w1.heap.size 3 1
 have hgl := hx.lt
 have hz1 := B1.size
 have hs1 := Nat.le_refl w1.heap.size
 clear q A0 B0 HC hg
 obtain ⟨b0, hb0⟩ : ∃ b0, w1.heap.size = b0 := ⟨_, rfl⟩
 rw [hb0] at R0 hgl hz1
 have hs1 : b0 ≤ w1.heap.size := by omega
 clear hb0
 go_wp2
 go_loopw [4, 5] (fun t i wr => ∃ k : Nat, k ≤ 256 ∧ i = .int .i64 (k : Int) ∧ IntsAt wr g 32 (fun j => (dg a j : Int)) ∧ wr.ownsRow b0 3 1 t k (btV a k) ∧ Below w.heap.size w wr ∧ b0 ≤ wr.heap.size) (fun _ i _ => 256 - (intOf i).toNat)
 case atStart => exact ⟨0, by omega, rfl, hx, R0, B1, hs1⟩
 case round =>
  obtain ⟨k, hk, rfl, xx, hown, hB, hsz⟩ := hrel
  clear hx R0 B1 hs1
  by_cases hlt : k < 256
  ·obtain ⟨q, r, hq, hr⟩ : ∃ q r, k = 8 * q + r ∧ r < 8 := ⟨k / 8, k % 8, by omega, by omega⟩
   have hq32 : q < 32 := by omega
   have hkI : (k : Int) < 256 := by omega
   have hk0 : (0 : Int) ≤ (k : Int) := by omega
   have cd := xx.cell hq32
   have e1 : (k : Int).tdiv 8 = (q : Int) := by rw [Int.tdiv_eq_ediv_of_nonneg (by omega)]; omega
   have e2 : (k : Int).tmod 8 = (r : Int) := by rw [Int.tmod_eq_emod_of_nonneg (by omega)]; omega
   have hqI : (q : Int) < 32 := by omega
   have hrI : (r : Int) < 8 := by omega
   have hr0 : (0 : Int) ≤ (r : Int) := by omega
   have hbit : hvN (dg a q) r % 2 = bt a (8 * q + r) := bt_dg a q r hr
   rw [← hq] at hbit
   have HBit := Lib.hid hbit
   have HQ := Lib.hid hq
   have HR := Lib.hid hr
   have HV := Lib.hid (btV_succ a k)
   have HK := Lib.hid hlt
   have HX := Lib.hid xx
   have HO := Lib.hid hown
   have HB := Lib.hid hB
   have HZ := Lib.hid hsz
   have hdg := dg_lt a q
   obtain ⟨v, hv⟩ : ∃ v : Nat, dg a q = v := ⟨_, rfl⟩
   rw [hv] at cd HBit hdg
   have HDG := Lib.hid hdg
   clear hk hlt hq hr hbit xx hown hB hsz hv hdg
   obtain ⟨wo, rfl⟩ : ∃ wo : World, wo = wr := ⟨_, rfl⟩
   go_wp2
   go_loopw [6, 7] (fun n j wr => ∃ m : Nat, j = .int .i64 (m : Int) ∧ n = .int .i64 (hvN v m : Int) ∧ Hid (m ≤ r) ∧ wr = wo) (fun _ j _ => 8 - (intOf j).toNat)
   case atStart => exact ⟨0, rfl, by rw [hvN_zero], Nat.zero_le _, rfl⟩
   case round =>
    obtain ⟨m, rfl, rfl, hm, rfl⟩ := hrel
    by_cases hlt : m < r
    ·have hmI : (m : Int) < (r : Int) := by omega
     have hm0 : (0 : Int) ≤ (m : Int) := by omega
     have hs := hvN_succ v m
     have hl := hvN_le v m
     have HS := Lib.hid hs
     have HM := Lib.hid hlt
     have hdg := HDG.out
     generalize hvN v m = y at *
     have hn : (y : Int).tdiv 2 = ((y / 2 : Nat) : Int) := by rw [Int.tdiv_eq_ediv_of_nonneg (by omega)]; omega
     have hy : (y : Int) < 256 := by omega
     have hy0 : (0 : Int) ≤ (y : Int) := by omega
     have hy1 : ((y / 2 : Nat) : Int) < 256 := by omega
     have hy2 : (0 : Int) ≤ ((y / 2 : Nat) : Int) := by omega
     clear hs hl hdg hlt hm
     generalize y / 2 = y' at *
     go_wp2
     go_roundw
     case rel => exact ⟨m + 1, by simp, by rw [HS.out], HM.out, by first | trivial | rfl⟩
     case measure => have := HM.out; have := HR.out; simp [intOf]; omega
    ·obtain rfl : m = r := by have := hm.out; omega
     have hb := HBit.out
     have hl := hvN_le v m
     have hdg := HDG.out
     have hbl := bt_lt a k
     generalize hvN v m = y at *
     have hy : (y : Int) < 256 := by omega
     have hy0 : (0 : Int) ≤ (y : Int) := by omega
     have e3 : (y : Int).tmod 2 = (bt a k : Int) := by rw [Int.tmod_eq_emod_of_nonneg (by omega)]; omega
     have hb0 : (0 : Int) ≤ (bt a k : Int) := by omega
     have hb1 : (bt a k : Int) < 2 := by omega
     generalize (bt a k : Int) = b at *
     obtain ⟨i0, hi, hz0, hz1, hz2⟩ := info_parts infoI
     have hkc : k < 256 := HK.out
     clear hb hl hdg hbl hm hlt HBit
     go_wp2_with (at_builtin; refine wpList_append_own _ rfl _ _ 93 rfl b0 3 i0 (.int .i64 0) 1 8 Tryz.underlying93 hi hz0 hz1 hz2 rfl (by decide) _ _ _ rfl (HO.out.alloc _) ⟨wr.heap.size, 0, none⟩ 1 1 [.int .i64 b] rfl rfl (cell_one _ _ _) (by simp [Value.oneCell']) (by unfold maxLen; omega) (by omega) (by have := HZ.out; simp; omega) ?_; intro v' w3 hown' hgrow hnil)
     clear hi hz0 hz1 hz2
     go_wp2
     go_roundw
     case rel =>
      have hxs3 := hgrow.size
      have hzz := HZ.out
      refine ⟨k + 1, HK.out, by simp, ?_, ?_, ?_, by simp at hxs3; omega⟩
      ·exact (HX.out.alloc _).kept hgrow (fun e => by have := (HO.out.alloc (.cells #[.int .i64 b] 3)).lt _ e.symm; omega)
      ·rw [HV.out]; exact hown'
      ·exact (HB.out.alloc (by omega) _).grown hgrow (by simp; omega) (fun j e => by have := (HO.out.alloc (.cells #[.int .i64 b] 3)).lt j e; omega)
     case measure => have := HK.out; simp [intOf]; omega
  ·obtain rfl : k = 256 := by omega
   obtain ⟨g', cap', rfl⟩ := ownsRow_succ (k := 255) hown
   have hx := IntsAt.of_row (d := fun j => (bt a j : Int)) hown (fun j hj => by simp [btV, hj])
   have HX := Lib.hid hx
   have HB := Lib.hid hB
   clear hk hlt hown xx hB hx hsz
   go_wp2
   go_ret
   exact ⟨g', cap', rfl, by have := HX.out.1; omega, HX.out.2, HB.out⟩
theorem fromBits_any (N : Nat) (hN : W256 N) (g cap : Nat) (w : World) (hx : IntsAt w g 256 (fun j => (bt N j : Int))) :
  Calls Tryz.prog 85 #[.slice (some ⟨g, 0, none⟩) 256 cap] w fun e w' => e = .returned (wv N) ∧ Below w.heap.size w w' := by
 have A0 := Arr4.mk0' w 24
 have B0 := (Below.refl _ w).alloc (Nat.le_refl _) (.cells #[.int .u64 0, .int .u64 0, .int .u64 0, .int .u64 0] 24)
 have X0 := hx.alloc (.cells #[.int .u64 0, .int .u64 0, .int .u64 0, .int .u64 0] 24)
 have hgl := hx.lt
 have R0 := World.ownsRow_nil (w.alloc (.cells #[.int .u64 0, .int .u64 0, .int .u64 0, .int .u64 0] 24)) (w.heap.size + 1) 3 1
 have s0 : w.heap.size + 1 ≤ (w.alloc (.cells #[.int .u64 0, .int .u64 0, .int .u64 0, .int .u64 0] 24)).heap.size := by simp
 have HW := Lib.hid hN
 clear hx hN
 go_enter Tryz.func85, Tryz.ntmps85
 go_wp2
 obtain ⟨W0, hW0⟩ : ∃ W0, (w.alloc (.cells #[.int .u64 0, .int .u64 0, .int .u64 0, .int .u64 0] 24)) = W0 := ⟨_, rfl⟩
 rw [hW0] at A0 B0 X0 R0 s0 ⊢
 clear hW0
 go_loopw [3, 4] (fun t i wr => ∃ k : Nat, k ≤ 32 ∧ i = .int .i64 (k : Int) ∧ IntsAt wr g 256 (fun j => (bt N j : Int)) ∧ Arr4 wr w.heap.size 24 (fun _ => 0) ∧ wr.ownsRow (w.heap.size + 1) 3 1 t k (dgsV N k) ∧ Below w.heap.size w wr ∧ w.heap.size + 1 ≤ wr.heap.size) (fun _ i _ => 32 - (intOf i).toNat)
 case atStart => exact ⟨0, by omega, rfl, X0, A0, R0, B0, s0⟩
 case round =>
  obtain ⟨k, hk, rfl, xx, aw, hown, hB, hsz⟩ := hrel
  clear X0 A0 R0 B0 s0
  by_cases hlt : k < 32
  ·have hkI : (k : Int) < 32 := by omega
   have hk0 : (0 : Int) ≤ (k : Int) := by omega
   have HV := Lib.hid (dgsV_succ N k)
   have HK := Lib.hid hlt
   have HX := Lib.hid xx
   have HA := Lib.hid aw
   have HO := Lib.hid hown
   have HB := Lib.hid hB
   have HZ := Lib.hid hsz
   clear hk hlt xx aw hown hB hsz
   obtain ⟨wo, rfl⟩ : ∃ wo : World, wo = wr := ⟨_, rfl⟩
   go_wp2
   go_loopw [5, 6] (fun n j wr => ∃ (r : Nat) (z : Int), j = .int .i64 z ∧ z = (r : Int) - 1 ∧ n = .int .i64 (hvN (dg N k) r : Int) ∧ Hid (r ≤ 8) ∧ wr = wo) (fun _ j _ => (intOf j + 1).toNat)
   case atStart => exact ⟨8, 7, rfl, by omega, by have := dg_lt N k; rw [show hvN (dg N k) 8 = 0 by unfold hvN; omega]; rfl, Nat.le_refl _, rfl⟩
   case round =>
    obtain ⟨r, z, rfl, hz, rfl, hr, rfl⟩ := hrel
    by_cases h0 : r = 0
    ·subst h0
     rw [hvN_zero]
     have hdg := dg_lt N k
     have hz0 : ¬ 0 ≤ z := by omega
     have hb1 : (dg N k : Int) < 256 := by omega
     have hb0 : (0 : Int) ≤ (dg N k : Int) := by omega
     generalize (dg N k : Int) = b at *
     obtain ⟨i0, hi, hz0', hz1, hz2⟩ := info_parts infoI
     have hkc : k < 32 := HK.out
     clear hdg hr hz
     go_wp2_with (at_builtin; refine wpList_append_own _ rfl _ _ 93 rfl (w.heap.size + 1) 3 i0 (.int .i64 0) 1 8 Tryz.underlying93 hi hz0' hz1 hz2 rfl (by decide) _ _ _ rfl (HO.out.alloc _) ⟨wr.heap.size, 0, none⟩ 1 1 [.int .i64 b] rfl rfl (cell_one _ _ _) (by simp [Value.oneCell']) (by unfold maxLen; omega) (by omega) (by have := HZ.out; simp; omega) ?_; intro v' w3 hown' hgrow hnil)
     clear hi hz0' hz1 hz2
     go_wp2
     go_roundw
     case rel =>
      have hxs3 := hgrow.size
      have hzz := HZ.out
      refine ⟨k + 1, HK.out, by simp, ?_, ?_, ?_, ?_, by simp at hxs3; omega⟩
      ·exact (HX.out.alloc _).kept hgrow (fun e => by have := (HO.out.alloc (.cells #[.int .i64 b] 3)).lt _ e.symm; omega)
      ·exact (HA.out.alloc _).kept hgrow (fun e => by have := (HO.out.alloc (.cells #[.int .i64 b] 3)).lt _ e.symm; omega)
      ·rw [HV.out]; exact hown'
      ·exact (HB.out.alloc (by omega) _).grown hgrow (by simp; omega) (fun j e => by have := (HO.out.alloc (.cells #[.int .i64 b] 3)).lt j e; omega)
     case measure => have := HK.out; simp [intOf]; omega
    ·obtain ⟨m, rfl⟩ : ∃ m, r = m + 1 := ⟨r - 1, by omega⟩
     have hm : z = (m : Int) := by omega
     subst hm
     have hm8 : m < 8 := by have := hr.out; omega
     have cb := HX.out.cell (j := 8 * k + m) (by have := HK.out; omega)
     have hs := hvN_succ (dg N k) m
     have hl := hvN_le (dg N k) m
     have hdg := dg_lt N k
     have hb : hvN (dg N k) m % 2 = bt N (8 * k + m) := bt_dg N k m hm8
     rw [hs]
     have HM8 := Lib.hid hm8
     generalize bt N (8 * k + m) = x at *
     generalize hyy : hvN (dg N k) m = y at *
     have e1 : (2 : Int) * ((y / 2 : Nat) : Int) + (x : Int) = (y : Int) := by omega
     have e0 : ((8 : Int) * (k : Int) + (m : Int)) = ((8 * k + m : Nat) : Int) := by omega
     have e2 : ((8 * k + m : Nat) : Int) < 256 := by omega
     have e3 : (0 : Int) ≤ ((8 * k + m : Nat) : Int) := by omega
     have y0 : (0 : Int) ≤ (y : Int) := by omega
     have y1 : (y : Int) < 256 := by omega
     have x0 : (0 : Int) ≤ (x : Int) := by omega
     have x1 : (x : Int) < 2 := by omega
     have y2 : (0 : Int) ≤ ((y / 2 : Nat) : Int) := by omega
     have y3 : ((y / 2 : Nat) : Int) < 128 := by omega
     have m0 : (0 : Int) ≤ (m : Int) := by omega
     have m1 : (m : Int) < 8 := by omega
     have HY : Hid (hvN (dg N k) m = y) := hyy
     generalize y / 2 = y' at *
     generalize hI : 8 * k + m = I at *
     clear hs hl hdg hb hr hz hm8 h0 hI hyy
     go_wp2
     refine ⟨⟨m, (m : Int) - 1, rfl, rfl, by rw [HY.out], by have := HM8.out; show m ≤ 8; omega, by trivial⟩, by simp [intOf]⟩
  ·obtain rfl : k = 32 := by omega
   obtain ⟨g', cap', rfl⟩ := ownsRow_succ (k := 31) hown
   have hx := IntsAt.of_row (d := fun j => (dg N j : Int)) hown (fun j hj => by simp [dgsV, hj])
   have DD := fromDigits_any (cut32 (fun j => (dg N j : Int))) (cut32_range _ (fun j => by have := dg_lt N j; constructor <;> omega)) 32 g' cap' (by omega) (fun j hj => cut32_none _ j hj) wr (hx.2.congr (fun j hj => (if_pos hj).symm))
   rw [cut32_val, valI_word N HW.out, Int.toNat_natCast] at DD
   have HD := Lib.hid DD
   have HA := Lib.hid aw
   have HB := Lib.hid hB
   clear hk hlt hown xx hB hx hsz aw DD HW
   go_wp2_with fail
   refine (HD.out).mono ?_
   rintro e w4 ⟨rfl, q⟩
   have a3 := HA.out.later' q
   have HB := Lib.hid (HB.out.trans (q.mono HB.out.size))
   clear q HD HA
   have f0 := a3.frozen 0
   have f1 := a3.frozen 1
   have f2 := a3.frozen 2
   have f3 := a3.frozen 3
   have d0 := a3.cell (j := 0) (by omega)
   have d1 := a3.cell (j := 1) (by omega)
   have d2 := a3.cell (j := 2) (by omega)
   have d3 := a3.cell (j := 3) (by omega)
   have HA := Lib.hid a3
   clear a3
   unfold wv
   go_wp2
   refine bodyPost_ret (results_word rfl rfl (HA.out.store _)) rfl ⟨rfl, ?_⟩
   exact (((HB.out.setCell (p := ⟨w.heap.size, 0, none⟩) (by simp) _).setCell (p := ⟨w.heap.size, 1, none⟩) (by simp) _).setCell (p := ⟨w.heap.size, 2, none⟩) (by simp) _).setCell (p := ⟨w.heap.size, 3, none⟩) (by simp) _
end
end Go.Proofs.YtnkhmgmganejmaaGreatDoor
