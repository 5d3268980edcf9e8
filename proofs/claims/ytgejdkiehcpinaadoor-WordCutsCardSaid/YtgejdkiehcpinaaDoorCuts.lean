/- Bytes put behind a word's bytes: the law's walk over what the calls answer. -/
import Derived.Test.YtgejdkiehcpinaaDoorDoubles
namespace Go.Proofs.YtgejdkiehcpinaaDoor
open Go Go.RowKit
attribute [local go_sem] Oper.semAt_some Grows wide_fn eq4

set_option maxRecDepth 100000 in
set_option maxHeartbeats 4000000 in
theorem cuts_walk (v P yN zF : Nat → Int) (Y M O : Nat → Nat → Int) (s x t : ByteArray) (hx : x = s.extract 0 (min s.size 60)) (hxs : (x.size : Int) ≤ 60) (hss : s.size ≤ 140737488355328) (hts : (t.size : Int) = 32) (hy0 : Y 0 = v) (hyn : Y x.size = yN)
    (h1 : Ret Tryd.prog 11 #[.int .i64 256] (.agg #[.int .u64 (P 0), .int .u64 (P 1), .int .u64 (P 2), .int .u64 (P 3)]))
    (h2 : ∀ k, k < x.size → Ret Tryd.prog 17 #[.agg #[.int .u64 (Y k 0), .int .u64 (Y k 1), .int .u64 (Y k 2), .int .u64 (Y k 3)], .agg #[.int .u64 (P 0), .int .u64 (P 1), .int .u64 (P 2), .int .u64 (P 3)]] (.agg #[.int .u64 (M k 0), .int .u64 (M k 1), .int .u64 (M k 2), .int .u64 (M k 3)]))
    (h3 : ∀ k (hk : k < x.size), Ret Tryd.prog 11 #[.int .i64 (x[k].toNat : Int)] (.agg #[.int .u64 (O k 0), .int .u64 (O k 1), .int .u64 (O k 2), .int .u64 (O k 3)]))
    (h4 : ∀ k, k < x.size → Ret Tryd.prog 13 #[.agg #[.int .u64 (M k 0), .int .u64 (M k 1), .int .u64 (M k 2), .int .u64 (M k 3)], .agg #[.int .u64 (O k 0), .int .u64 (O k 1), .int .u64 (O k 2), .int .u64 (O k 3)]] (.agg #[.int .u64 (Y (k + 1) 0), .int .u64 (Y (k + 1) 1), .int .u64 (Y (k + 1) 2), .int .u64 (Y (k + 1) 3)]))
    (h5 : Ret Tryd.prog 21 #[.agg #[.int .u64 (v 0), .int .u64 (v 1), .int .u64 (v 2), .int .u64 (v 3)]] (.string t))
    (h6 : Ret Tryd.prog 30 #[.string (t ++ x)] (.agg #[.int .u64 (yN 0), .int .u64 (yN 1), .int .u64 (yN 2), .int .u64 (yN 3)]))
    (h7 : Ret Tryd.prog 30 #[.string x] (.agg #[.int .u64 (zF 0), .int .u64 (zF 1), .int .u64 (zF 2), .int .u64 (zF 3)]))
    (h8 : Ret Tryd.prog 30 #[.string ((⟨#[0]⟩ : ByteArray) ++ x)] (.agg #[.int .u64 (zF 0), .int .u64 (zF 1), .int .u64 (zF 2), .int .u64 (zF 3)])) :
    Ret Tryd.prog 9 #[.agg #[.int .u64 (v 0), .int .u64 (v 1), .int .u64 (v 2), .int .u64 (v 3)], .string s] (.bool true) := by
  intro w
  have k1 := awake_ret
  have HM := Lib.hid h2
  have HO := Lib.hid h3
  have HA := Lib.hid h4
  have HY0 := Lib.hid hy0
  have HYN := Lib.hid hyn
  clear h2 h3 h4 hy0 hyn
  have AV := Arr4.mk4 w 24 v
  have BB := (Below.refl _ w).alloc (Nat.le_refl _) (.cells #[.int .u64 (v 0), .int .u64 (v 1), .int .u64 (v 2), .int .u64 (v 3)] 24)
  go_enter Tryd.func9, Tryd.ntmps9
  go_wp2_with fail
  obtain ⟨W0, hW0⟩ : ∃ W0, w.alloc (.cells #[.int .u64 (v 0), .int .u64 (v 1), .int .u64 (v 2), .int .u64 (v 3)] 24) = W0 := ⟨_, rfl⟩
  rw [hW0] at AV BB ⊢
  clear hW0
  refine (k1 _).mono ?_
  rintro e w1 ⟨rfl, hb1⟩
  have AV1 := AV.later hb1
  have B1 := BB.trans (hb1.mono BB.size)
  have c0 := AV1.cell (j := 0) (by omega)
  have c1 := AV1.cell (j := 1) (by omega)
  have c2 := AV1.cell (j := 2) (by omega)
  have c3 := AV1.cell (j := 3) (by omega)
  have AY := Arr4.mk4 w1 24 v
  have hlt := AV1.lt
  have hsz := B1.size
  have AV := AV1.alloc (.cells #[.int .u64 (v 0), .int .u64 (v 1), .int .u64 (v 2), .int .u64 (v 3)] 24)
  have BB := B1.alloc B1.size (.cells #[.int .u64 (v 0), .int .u64 (v 1), .int .u64 (v 2), .int .u64 (v 3)] 24)
  clear k1 hb1 AV1 B1
  by_cases hle : s.size ≤ 60
  · have hx2 : s.extract 0 s.size = x := by rw [hx, Nat.min_eq_left hle]
    have z1 : (s.size : Int) ≤ 60 := by omega
    have z0 : (0 : Int) ≤ (s.size : Int) := by omega
    clear hx hle hss
    go_wp2
    try rw [hx2]
    clear hx2
    first | clear z1 z0 | skip
    obtain ⟨W1, hW1⟩ : ∃ W1, w1.alloc (.cells #[.int .u64 (v 0), .int .u64 (v 1), .int .u64 (v 2), .int .u64 (v 3)] 24) = W1 := ⟨_, rfl⟩
    rw [hW1] at AV AY BB ⊢
    have hne : w.heap.size ≠ w1.heap.size := by omega
    have hbx : w.heap.size ≤ w1.heap.size := hsz
    clear hW1 c0 c1 c2 c3 hlt hsz
    generalize w1.heap.size = bY at *
    go_loopw [8] (fun i wr => ∃ k : Nat, k ≤ x.size ∧ i = .int .i64 (k : Int) ∧ Arr4 wr w.heap.size 24 v ∧ Arr4 wr bY 24 (Y k) ∧ Below w.heap.size w wr) (fun i _ => x.size - (intOf i).toNat)
    case atStart => exact ⟨0, by omega, rfl, AV, by rw [HY0.out]; exact AY, BB⟩
    case round =>
      obtain ⟨k, hk, rfl, av, ay, hB⟩ := hrel
      clear AV AY BB
      by_cases hlt : k < x.size
      · have e2 := HM.out k hlt
        have e3 := HO.out k hlt
        have e4 := HA.out k hlt
        have hmx : Tryd.prog.follows .mixedOrders = true := by kernel_rfl
        have hb0 : (0 : Int) ≤ (x[k].toNat : Int) := by omega
        have hb1 : (x[k].toNat : Int) < 256 := by have := x[k].toNat_lt; omega
        have HK := Lib.hid hlt
        have HB := Lib.hid hB
        have AV := Lib.hid av
        have AY := Lib.hid ay
        have f0 : ∀ x : Ext wr, x.w.cell? ⟨bY, 0, none⟩ = some (.int .u64 (Y k 0)) := fun x => (AY.out.later x.below).cell (by omega)
        have f1 : ∀ x : Ext wr, x.w.cell? ⟨bY, 1, none⟩ = some (.int .u64 (Y k 1)) := fun x => (AY.out.later x.below).cell (by omega)
        have f2 : ∀ x : Ext wr, x.w.cell? ⟨bY, 2, none⟩ = some (.int .u64 (Y k 2)) := fun x => (AY.out.later x.below).cell (by omega)
        have f3 : ∀ x : Ext wr, x.w.cell? ⟨bY, 3, none⟩ = some (.int .u64 (Y k 3)) := fun x => (AY.out.later x.below).cell (by omega)
        have g0 : ∀ x : Ext wr, x.w.frozen? ⟨bY, 0, none⟩ = false := fun x => (AY.out.later x.below).frozen 0
        have g1 : ∀ x : Ext wr, x.w.frozen? ⟨bY, 1, none⟩ = false := fun x => (AY.out.later x.below).frozen 1
        have g2 : ∀ x : Ext wr, x.w.frozen? ⟨bY, 2, none⟩ = false := fun x => (AY.out.later x.below).frozen 2
        have g3 : ∀ x : Ext wr, x.w.frozen? ⟨bY, 3, none⟩ = false := fun x => (AY.out.later x.below).frozen 3
        clear hk av ay hB
        go_wp2
        refine wp_region_mix (C := Grows wr) [some true, some true, some true, some true, some true, some true, some true, some true, some true, none] hmx (by kernel_rfl) (by kernel_rfl) (grows_refl wr) ?_
        simp only [headOf, tailOf]
        repeat (go_big_quiet_step (first | (with_reducible exact Ret.at h1 _) | (with_reducible exact Ret.at e2 _) | (with_reducible exact Ret.at e3 _) | (with_reducible exact Ret.at e4 _)))
        refine wpQuiet_nil ?_
        rintro _ ⟨xx, rfl⟩
        have AV3 := Lib.hid ((AV.out.later xx.below).other4 hne (.int .u64 (Y (k + 1) 0)) (.int .u64 (Y (k + 1) 1)) (.int .u64 (Y (k + 1) 2)) (.int .u64 (Y (k + 1) 3)))
        have AY3 := Lib.hid ((AY.out.later xx.below).store (Y (k + 1)))
        have HB3 := Lib.hid (Below.put4 (HB.out.trans (xx.below.mono HB.out.size)) hbx (.int .u64 (Y (k + 1) 0)) (.int .u64 (Y (k + 1) 1)) (.int .u64 (Y (k + 1) 2)) (.int .u64 (Y (k + 1) 3)))
        go_wp2
        rw [calmPost_normal]
        go_wp2
        go_roundw
        case rel => exact ⟨k + 1, HK.out, by simp, AV3.out, AY3.out, HB3.out⟩
        case measure => have := HK.out; simp [intOf]; omega
      · obtain rfl : k = x.size := by omega
        have f0 : ∀ x : Ext wr, x.w.cell? ⟨bY, 0, none⟩ = some (.int .u64 (yN 0)) := fun xx => by have h := (ay.later xx.below).cell (j := 0) (by omega); rw [HYN.out] at h; exact h
        have f1 : ∀ x : Ext wr, x.w.cell? ⟨bY, 1, none⟩ = some (.int .u64 (yN 1)) := fun xx => by have h := (ay.later xx.below).cell (j := 1) (by omega); rw [HYN.out] at h; exact h
        have f2 : ∀ x : Ext wr, x.w.cell? ⟨bY, 2, none⟩ = some (.int .u64 (yN 2)) := fun xx => by have h := (ay.later xx.below).cell (j := 2) (by omega); rw [HYN.out] at h; exact h
        have f3 : ∀ x : Ext wr, x.w.cell? ⟨bY, 3, none⟩ = some (.int .u64 (yN 3)) := fun xx => by have h := (ay.later xx.below).cell (j := 3) (by omega); rw [HYN.out] at h; exact h
        have g0 : ∀ x : Ext wr, x.w.cell? ⟨w.heap.size, 0, none⟩ = some (.int .u64 (v 0)) := fun xx => (av.later xx.below).cell (by omega)
        have g1 : ∀ x : Ext wr, x.w.cell? ⟨w.heap.size, 1, none⟩ = some (.int .u64 (v 1)) := fun xx => (av.later xx.below).cell (by omega)
        have g2 : ∀ x : Ext wr, x.w.cell? ⟨w.heap.size, 2, none⟩ = some (.int .u64 (v 2)) := fun xx => (av.later xx.below).cell (by omega)
        have g3 : ∀ x : Ext wr, x.w.cell? ⟨w.heap.size, 3, none⟩ = some (.int .u64 (v 3)) := fun xx => (av.later xx.below).cell (by omega)
        have HB := Lib.hid hB
        clear hk hlt av ay hB
        go_wp2
        by_cases h32 : (32 : Int) < (x.size : Int)
        all_goals
          refine wp_region_quietL (C := Grows wr) (by kernel_rfl) (by kernel_rfl) (grows_refl wr) ?_
          repeat (go_big_quiet_step (first | (with_reducible exact Ret.at h5 _) | (with_reducible exact Ret.at h6 _) | (with_reducible exact Ret.at h7 _) | (with_reducible exact Ret.at h8 _)))
          refine wpQuiet_nil ?_
          rintro _ ⟨xx, rfl⟩
          go_wp2
          go_ret
          exact ⟨rfl, HB.out.trans (xx.below.mono HB.out.size)⟩
  · have hx2 : s.extract 0 60 = x := by rw [hx, Nat.min_eq_right (by omega)]
    have z1 : (60 : Int) < (s.size : Int) := by omega
    have z2 : (60 : Int) ≤ (s.size : Int) := by omega
    have z3 : ¬ (s.size : Int) ≤ 60 := by omega
    have z4 : ¬ (s.size : Int) < 60 := by omega
    clear hx hle hss
    go_wp2
    try rw [hx2]
    clear hx2
    first | clear z1 z2 z3 z4 | skip
    obtain ⟨W1, hW1⟩ : ∃ W1, w1.alloc (.cells #[.int .u64 (v 0), .int .u64 (v 1), .int .u64 (v 2), .int .u64 (v 3)] 24) = W1 := ⟨_, rfl⟩
    rw [hW1] at AV AY BB ⊢
    have hne : w.heap.size ≠ w1.heap.size := by omega
    have hbx : w.heap.size ≤ w1.heap.size := hsz
    clear hW1 c0 c1 c2 c3 hlt hsz
    generalize w1.heap.size = bY at *
    go_loopw [8] (fun i wr => ∃ k : Nat, k ≤ x.size ∧ i = .int .i64 (k : Int) ∧ Arr4 wr w.heap.size 24 v ∧ Arr4 wr bY 24 (Y k) ∧ Below w.heap.size w wr) (fun i _ => x.size - (intOf i).toNat)
    case atStart => exact ⟨0, by omega, rfl, AV, by rw [HY0.out]; exact AY, BB⟩
    case round =>
      obtain ⟨k, hk, rfl, av, ay, hB⟩ := hrel
      clear AV AY BB
      by_cases hlt : k < x.size
      · have e2 := HM.out k hlt
        have e3 := HO.out k hlt
        have e4 := HA.out k hlt
        have hmx : Tryd.prog.follows .mixedOrders = true := by kernel_rfl
        have hb0 : (0 : Int) ≤ (x[k].toNat : Int) := by omega
        have hb1 : (x[k].toNat : Int) < 256 := by have := x[k].toNat_lt; omega
        have HK := Lib.hid hlt
        have HB := Lib.hid hB
        have AV := Lib.hid av
        have AY := Lib.hid ay
        have f0 : ∀ x : Ext wr, x.w.cell? ⟨bY, 0, none⟩ = some (.int .u64 (Y k 0)) := fun x => (AY.out.later x.below).cell (by omega)
        have f1 : ∀ x : Ext wr, x.w.cell? ⟨bY, 1, none⟩ = some (.int .u64 (Y k 1)) := fun x => (AY.out.later x.below).cell (by omega)
        have f2 : ∀ x : Ext wr, x.w.cell? ⟨bY, 2, none⟩ = some (.int .u64 (Y k 2)) := fun x => (AY.out.later x.below).cell (by omega)
        have f3 : ∀ x : Ext wr, x.w.cell? ⟨bY, 3, none⟩ = some (.int .u64 (Y k 3)) := fun x => (AY.out.later x.below).cell (by omega)
        have g0 : ∀ x : Ext wr, x.w.frozen? ⟨bY, 0, none⟩ = false := fun x => (AY.out.later x.below).frozen 0
        have g1 : ∀ x : Ext wr, x.w.frozen? ⟨bY, 1, none⟩ = false := fun x => (AY.out.later x.below).frozen 1
        have g2 : ∀ x : Ext wr, x.w.frozen? ⟨bY, 2, none⟩ = false := fun x => (AY.out.later x.below).frozen 2
        have g3 : ∀ x : Ext wr, x.w.frozen? ⟨bY, 3, none⟩ = false := fun x => (AY.out.later x.below).frozen 3
        clear hk av ay hB
        go_wp2
        refine wp_region_mix (C := Grows wr) [some true, some true, some true, some true, some true, some true, some true, some true, some true, none] hmx (by kernel_rfl) (by kernel_rfl) (grows_refl wr) ?_
        simp only [headOf, tailOf]
        repeat (go_big_quiet_step (first | (with_reducible exact Ret.at h1 _) | (with_reducible exact Ret.at e2 _) | (with_reducible exact Ret.at e3 _) | (with_reducible exact Ret.at e4 _)))
        refine wpQuiet_nil ?_
        rintro _ ⟨xx, rfl⟩
        have AV3 := Lib.hid ((AV.out.later xx.below).other4 hne (.int .u64 (Y (k + 1) 0)) (.int .u64 (Y (k + 1) 1)) (.int .u64 (Y (k + 1) 2)) (.int .u64 (Y (k + 1) 3)))
        have AY3 := Lib.hid ((AY.out.later xx.below).store (Y (k + 1)))
        have HB3 := Lib.hid (Below.put4 (HB.out.trans (xx.below.mono HB.out.size)) hbx (.int .u64 (Y (k + 1) 0)) (.int .u64 (Y (k + 1) 1)) (.int .u64 (Y (k + 1) 2)) (.int .u64 (Y (k + 1) 3)))
        go_wp2
        rw [calmPost_normal]
        go_wp2
        go_roundw
        case rel => exact ⟨k + 1, HK.out, by simp, AV3.out, AY3.out, HB3.out⟩
        case measure => have := HK.out; simp [intOf]; omega
      · obtain rfl : k = x.size := by omega
        have f0 : ∀ x : Ext wr, x.w.cell? ⟨bY, 0, none⟩ = some (.int .u64 (yN 0)) := fun xx => by have h := (ay.later xx.below).cell (j := 0) (by omega); rw [HYN.out] at h; exact h
        have f1 : ∀ x : Ext wr, x.w.cell? ⟨bY, 1, none⟩ = some (.int .u64 (yN 1)) := fun xx => by have h := (ay.later xx.below).cell (j := 1) (by omega); rw [HYN.out] at h; exact h
        have f2 : ∀ x : Ext wr, x.w.cell? ⟨bY, 2, none⟩ = some (.int .u64 (yN 2)) := fun xx => by have h := (ay.later xx.below).cell (j := 2) (by omega); rw [HYN.out] at h; exact h
        have f3 : ∀ x : Ext wr, x.w.cell? ⟨bY, 3, none⟩ = some (.int .u64 (yN 3)) := fun xx => by have h := (ay.later xx.below).cell (j := 3) (by omega); rw [HYN.out] at h; exact h
        have g0 : ∀ x : Ext wr, x.w.cell? ⟨w.heap.size, 0, none⟩ = some (.int .u64 (v 0)) := fun xx => (av.later xx.below).cell (by omega)
        have g1 : ∀ x : Ext wr, x.w.cell? ⟨w.heap.size, 1, none⟩ = some (.int .u64 (v 1)) := fun xx => (av.later xx.below).cell (by omega)
        have g2 : ∀ x : Ext wr, x.w.cell? ⟨w.heap.size, 2, none⟩ = some (.int .u64 (v 2)) := fun xx => (av.later xx.below).cell (by omega)
        have g3 : ∀ x : Ext wr, x.w.cell? ⟨w.heap.size, 3, none⟩ = some (.int .u64 (v 3)) := fun xx => (av.later xx.below).cell (by omega)
        have HB := Lib.hid hB
        clear hk hlt av ay hB
        go_wp2
        by_cases h32 : (32 : Int) < (x.size : Int)
        all_goals
          refine wp_region_quietL (C := Grows wr) (by kernel_rfl) (by kernel_rfl) (grows_refl wr) ?_
          repeat (go_big_quiet_step (first | (with_reducible exact Ret.at h5 _) | (with_reducible exact Ret.at h6 _) | (with_reducible exact Ret.at h7 _) | (with_reducible exact Ret.at h8 _)))
          refine wpQuiet_nil ?_
          rintro _ ⟨xx, rfl⟩
          go_wp2
          go_ret
          exact ⟨rfl, HB.out.trans (xx.below.mono HB.out.size)⟩
end Go.Proofs.YtgejdkiehcpinaaDoor
