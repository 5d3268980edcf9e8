/- The letters behind a round. For all letters. -/
import Derived.Test.YtnjmhcooejcehaaDoorShaA
namespace Go.Proofs.YtnjmhcooejcehaaDoor
open Go Go.RowKit Go.Shelf
attribute [local go_sem] Oper.semAt_some Grows wide_fn

theorem sgn32 : IntKind.u32.signed = false := rfl
theorem max32 : IntKind.u32.max = 4294967295 := by decide
attribute [local go_sem] sgn32 max32
set_option maxRecDepth 100000 in
set_option maxHeartbeats 4000000 in
theorem next_walk (l0 l1 l2 l3 l4 l5 l6 l7 ad : Int) (r6 r11 r25 r2 r13 r22 x1 x2 y1 c1 c2 c3 c4 y2 t z1 z2 m1 m2 m3 m4 m5 u n0 n4 : Int)
    (h6 : Ret Tryd.prog 27 #[.int .u32 l4, .int .i64 6] (.int .u32 r6))
    (h11 : Ret Tryd.prog 27 #[.int .u32 l4, .int .i64 11] (.int .u32 r11))
    (h25 : Ret Tryd.prog 27 #[.int .u32 l4, .int .i64 25] (.int .u32 r25))
    (h2 : Ret Tryd.prog 27 #[.int .u32 l0, .int .i64 2] (.int .u32 r2))
    (h13 : Ret Tryd.prog 27 #[.int .u32 l0, .int .i64 13] (.int .u32 r13))
    (h22 : Ret Tryd.prog 27 #[.int .u32 l0, .int .i64 22] (.int .u32 r22))
    (ex1 : bits .xor .u32 r6 r11 = x1) (ex2 : bits .xor .u32 x1 r25 = x2) (ey1 : IntKind.u32.wrap (l7 + x2) = y1)
    (ec1 : bits .and .u32 l4 l5 = c1) (ec2 : bits .xor .u32 4294967295 l4 = c2) (ec3 : bits .and .u32 c2 l6 = c3) (ec4 : bits .xor .u32 c1 c3 = c4)
    (ey2 : IntKind.u32.wrap (y1 + c4) = y2) (et : IntKind.u32.wrap (y2 + ad) = t)
    (ez1 : bits .xor .u32 r2 r13 = z1) (ez2 : bits .xor .u32 z1 r22 = z2) (em1 : bits .and .u32 l0 l1 = m1) (em2 : bits .and .u32 l0 l2 = m2) (em3 : bits .xor .u32 m1 m2 = m3)
    (em4 : bits .and .u32 l1 l2 = m4) (em5 : bits .xor .u32 m3 m4 = m5) (eu : IntKind.u32.wrap (z2 + m5) = u) (en0 : IntKind.u32.wrap (t + u) = n0) (en4 : IntKind.u32.wrap (l3 + t) = n4) :
    Ret Tryd.prog 26 #[.agg #[.int .u32 l0, .int .u32 l1, .int .u32 l2, .int .u32 l3, .int .u32 l4, .int .u32 l5, .int .u32 l6, .int .u32 l7], .int .u32 ad]
      (.agg #[.int .u32 n0, .int .u32 l0, .int .u32 l1, .int .u32 l2, .int .u32 n4, .int .u32 l4, .int .u32 l5, .int .u32 l6]) := by
  intro w
  have hmx : Tryd.prog.follows .mixedOrders = true := by kernel_rfl
  have H6 := Lib.hid h6
  have H11 := Lib.hid h11
  have H25 := Lib.hid h25
  have H2 := Lib.hid h2
  have H13 := Lib.hid h13
  have H22 := Lib.hid h22
  clear h6 h11 h25 h2 h13 h22
  have L := (Has.new w 46 #[.int .u32 l0, .int .u32 l1, .int .u32 l2, .int .u32 l3, .int .u32 l4, .int .u32 l5, .int .u32 l6, .int .u32 l7]).alloc (.cells #[.int .u32 0, .int .u32 0, .int .u32 0, .int .u32 0, .int .u32 0, .int .u32 0, .int .u32 0, .int .u32 0] 46)
  have R := Has.new (w.alloc (.cells #[.int .u32 l0, .int .u32 l1, .int .u32 l2, .int .u32 l3, .int .u32 l4, .int .u32 l5, .int .u32 l6, .int .u32 l7] 46)) 46 #[.int .u32 0, .int .u32 0, .int .u32 0, .int .u32 0, .int .u32 0, .int .u32 0, .int .u32 0, .int .u32 0]
  simp only [World.size_alloc] at R
  have Q := ((Below.refl w.heap.size w).alloc (Nat.le_refl _) (.cells #[.int .u32 l0, .int .u32 l1, .int .u32 l2, .int .u32 l3, .int .u32 l4, .int .u32 l5, .int .u32 l6, .int .u32 l7] 46)).alloc (by simp) (.cells #[.int .u32 0, .int .u32 0, .int .u32 0, .int .u32 0, .int .u32 0, .int .u32 0, .int .u32 0, .int .u32 0] 46)
  go_enter Tryd.func26, Tryd.ntmps26
  go_wp2_with fail
  obtain ⟨W0, hW0⟩ : ∃ W0, (w.alloc (.cells #[.int .u32 l0, .int .u32 l1, .int .u32 l2, .int .u32 l3, .int .u32 l4, .int .u32 l5, .int .u32 l6, .int .u32 l7] 46)).alloc (.cells #[.int .u32 0, .int .u32 0, .int .u32 0, .int .u32 0, .int .u32 0, .int .u32 0, .int .u32 0, .int .u32 0] 46) = W0 := ⟨_, rfl⟩
  rw [hW0] at L R Q ⊢
  clear hW0
  have k0 : ∀ x : Ext W0, x.w.cell? ⟨w.heap.size, 0, none⟩ = some (.int .u32 l0) := fun x => (L.later x.below).cell 0 _ rfl
  have k1 : ∀ x : Ext W0, x.w.cell? ⟨w.heap.size, 1, none⟩ = some (.int .u32 l1) := fun x => (L.later x.below).cell 1 _ rfl
  have k2 : ∀ x : Ext W0, x.w.cell? ⟨w.heap.size, 2, none⟩ = some (.int .u32 l2) := fun x => (L.later x.below).cell 2 _ rfl
  have k3 : ∀ x : Ext W0, x.w.cell? ⟨w.heap.size, 3, none⟩ = some (.int .u32 l3) := fun x => (L.later x.below).cell 3 _ rfl
  have k4 : ∀ x : Ext W0, x.w.cell? ⟨w.heap.size, 4, none⟩ = some (.int .u32 l4) := fun x => (L.later x.below).cell 4 _ rfl
  have k5 : ∀ x : Ext W0, x.w.cell? ⟨w.heap.size, 5, none⟩ = some (.int .u32 l5) := fun x => (L.later x.below).cell 5 _ rfl
  have k6 : ∀ x : Ext W0, x.w.cell? ⟨w.heap.size, 6, none⟩ = some (.int .u32 l6) := fun x => (L.later x.below).cell 6 _ rfl
  have k7 : ∀ x : Ext W0, x.w.cell? ⟨w.heap.size, 7, none⟩ = some (.int .u32 l7) := fun x => (L.later x.below).cell 7 _ rfl
  have HR := Lib.hid R
  have HQ := Lib.hid Q
  clear L R Q
  refine wp_region_quietL (C := Grows W0) hmx (by kernel_rfl) (grows_refl W0) ?_
  repeat (go_big_quiet_step (fail))
  refine wpQuiet_nil ?_
  rintro _ ⟨x, rfl⟩
  have HR1 := Lib.hid (HR.out.later x.below)
  have HQ1 := Lib.hid (HQ.out.trans (x.below.mono HQ.out.size))
  clear k0 k1 k2 k3 k4 k5 k6 k7 HR HQ
  obtain ⟨w1, hw1⟩ : ∃ w1, x.w = w1 := ⟨_, rfl⟩
  rw [hw1] at HR1 HQ1 ⊢
  clear hw1 x
  go_wp2_with fail
  refine (H6.out _).mono ?_
  rintro e w2 ⟨rfl, q⟩
  have HR2 := Lib.hid (HR1.out.later q)
  have HQ2 := Lib.hid (HQ1.out.trans (q.mono HQ1.out.size))
  clear q HR1 HQ1
  go_wp2_with fail
  refine (H11.out _).mono ?_
  rintro e w3 ⟨rfl, q⟩
  have HR3 := Lib.hid (HR2.out.later q)
  have HQ3 := Lib.hid (HQ2.out.trans (q.mono HQ2.out.size))
  clear q HR2 HQ2
  go_wp2_with fail
  refine (H25.out _).mono ?_
  rintro e w4 ⟨rfl, q⟩
  have HR4 := Lib.hid (HR3.out.later q)
  have HQ4 := Lib.hid (HQ3.out.trans (q.mono HQ3.out.size))
  clear q HR3 HQ3
  go_wp2_with fail
  refine (H2.out _).mono ?_
  rintro e w5 ⟨rfl, q⟩
  have HR5 := Lib.hid (HR4.out.later q)
  have HQ5 := Lib.hid (HQ4.out.trans (q.mono HQ4.out.size))
  clear q HR4 HQ4
  go_wp2_with fail
  refine (H13.out _).mono ?_
  rintro e w6 ⟨rfl, q⟩
  have HR6 := Lib.hid (HR5.out.later q)
  have HQ6 := Lib.hid (HQ5.out.trans (q.mono HQ5.out.size))
  clear q HR5 HQ5
  go_wp2_with fail
  refine (H22.out _).mono ?_
  rintro e w7 ⟨rfl, q⟩
  have HR7 := Lib.hid (HR6.out.later q)
  have HQ7 := Lib.hid (HQ6.out.trans (q.mono HQ6.out.size))
  clear q HR6 HQ6
  have f0 := HR7.out.cell 0 _ rfl
  have z0 := HR7.out.frozen 0
  have f1 := HR7.out.cell 1 _ rfl
  have z1 := HR7.out.frozen 1
  have f2 := HR7.out.cell 2 _ rfl
  have z2 := HR7.out.frozen 2
  have f3 := HR7.out.cell 3 _ rfl
  have z3 := HR7.out.frozen 3
  have f4 := HR7.out.cell 4 _ rfl
  have z4 := HR7.out.frozen 4
  have f5 := HR7.out.cell 5 _ rfl
  have z5 := HR7.out.frozen 5
  have f6 := HR7.out.cell 6 _ rfl
  have z6 := HR7.out.frozen 6
  have f7 := HR7.out.cell 7 _ rfl
  have z7 := HR7.out.frozen 7
  have HF := Lib.hid ((((((((HR7.out.set 0 (.int .u32 n0)).set 1 (.int .u32 l0)).set 2 (.int .u32 l1)).set 3 (.int .u32 l2)).set 4 (.int .u32 n4)).set 5 (.int .u32 l4)).set 6 (.int .u32 l5)).set 7 (.int .u32 l6))
  have HG := Lib.hid ((((((((HQ7.out.setCell (p := ⟨w.heap.size + 1, 0, none⟩) (by simp) (.int .u32 n0)).setCell (p := ⟨w.heap.size + 1, 1, none⟩) (by simp) (.int .u32 l0)).setCell (p := ⟨w.heap.size + 1, 2, none⟩) (by simp) (.int .u32 l1)).setCell (p := ⟨w.heap.size + 1, 3, none⟩) (by simp) (.int .u32 l2)).setCell (p := ⟨w.heap.size + 1, 4, none⟩) (by simp) (.int .u32 n4)).setCell (p := ⟨w.heap.size + 1, 5, none⟩) (by simp) (.int .u32 l4)).setCell (p := ⟨w.heap.size + 1, 6, none⟩) (by simp) (.int .u32 l5)).setCell (p := ⟨w.heap.size + 1, 7, none⟩) (by simp) (.int .u32 l6))
  simp only [List.setIfInBounds_toArray, List.set_cons_succ, List.set_cons_zero] at HF
  have HI : Hid ((Tryd.prog.info? 46).map (·.size) = some (#[.int .u32 n0, .int .u32 l0, .int .u32 l1, .int .u32 l2, .int .u32 n4, .int .u32 l4, .int .u32 l5, .int .u32 l6] : Array Value).size) := Lib.hid info8
  go_wp2
  refine bodyPost_ret (results_cell_row rfl _ _ (w.heap.size + 1) _ _ (0, 0) _ rfl HF.out Tryd.underlying46 rfl HI.out) rfl ⟨rfl, HG.out⟩

theorem wrap_add (a b : Nat) : IntKind.u32.wrap ((a : Int) + (b : Int)) = (((a + b) % 2 ^ 32 : Nat) : Int) := by rw [IntKind.wrap_u32]; omega
theorem arC8_eq (A : Nat → Nat) : arC 8 A = #[.int .u32 ((A 0 : Nat) : Int), .int .u32 ((A 1 : Nat) : Int), .int .u32 ((A 2 : Nat) : Int), .int .u32 ((A 3 : Nat) : Int), .int .u32 ((A 4 : Nat) : Int), .int .u32 ((A 5 : Nat) : Int), .int .u32 ((A 6 : Nat) : Int), .int .u32 ((A 7 : Nat) : Int)] := rfl
theorem nextN_0 (L : Nat → Nat) (ad : Nat) : nextN L ad 0 = (tN L ad + uN L) % 2 ^ 32 := if_pos rfl
theorem nextN_4 (L : Nat → Nat) (ad : Nat) : nextN L ad 4 = (L 3 + tN L ad) % 2 ^ 32 := by unfold nextN; rw [if_neg (by decide), if_pos rfl]
theorem nextN_j (L : Nat → Nat) (ad j : Nat) (h0 : j ≠ 0) (h4 : j ≠ 4) : nextN L ad j = L (j - 1) := by unfold nextN; rw [if_neg h0, if_neg h4]

theorem next_ret (L : Nat → Nat) (hL : ∀ j, L j < 2 ^ 32) (ad : Nat) : Ret Tryd.prog 26 #[.agg (arC 8 L), .int .u32 ((ad : Nat) : Int)] (.agg (arC 8 (nextN L ad))) := by
  rw [arC8_eq L, arC8_eq (nextN L ad), nextN_0, nextN_4, nextN_j L ad 1 (by decide) (by decide), nextN_j L ad 2 (by decide) (by decide), nextN_j L ad 3 (by decide) (by decide), nextN_j L ad 5 (by decide) (by decide), nextN_j L ad 6 (by decide) (by decide), nextN_j L ad 7 (by decide) (by decide)]
  have hE := Nat.xor_lt_two_pow (rr_lt _ 6 (hL 4)) (rr_lt _ 11 (hL 4))
  have hA := Nat.xor_lt_two_pow (rr_lt _ 2 (hL 0)) (rr_lt _ 13 (hL 0))
  have hn : 4294967295 ^^^ L 4 < 2 ^ 32 := Nat.xor_lt_two_pow (by decide) (hL 4)
  have ha : ∀ i j, L i &&& L j < 2 ^ 32 := fun i j => Nat.and_lt_two_pow _ (hL j)
  exact next_walk _ _ _ _ _ _ _ _ _ _ _ _ _ _ _ ((rr (L 4) 6 ^^^ rr (L 4) 11 : Nat) : Int) ((bigE (L 4) : Nat) : Int) _ ((L 4 &&& L 5 : Nat) : Int) ((4294967295 ^^^ L 4 : Nat) : Int) (((4294967295 ^^^ L 4) &&& L 6 : Nat) : Int) ((chN (L 4) (L 5) (L 6) : Nat) : Int) _ _ ((rr (L 0) 2 ^^^ rr (L 0) 13 : Nat) : Int) ((bigA (L 0) : Nat) : Int) ((L 0 &&& L 1 : Nat) : Int) ((L 0 &&& L 2 : Nat) : Int) (((L 0 &&& L 1) ^^^ (L 0 &&& L 2) : Nat) : Int) ((L 1 &&& L 2 : Nat) : Int) ((majN (L 0) (L 1) (L 2) : Nat) : Int) _ _ _
    (turned_ret _ 6 (hL 4) (by decide)) (turned_ret _ 11 (hL 4) (by decide)) (turned_ret _ 25 (hL 4) (by decide)) (turned_ret _ 2 (hL 0) (by decide)) (turned_ret _ 13 (hL 0) (by decide)) (turned_ret _ 22 (hL 0) (by decide))
    (u32_xor_nat _ _ (rr_lt _ _ (hL 4)) (rr_lt _ _ (hL 4))) (u32_xor_nat _ _ hE (rr_lt _ _ (hL 4))) (wrap_add _ _)
    (u32_and_nat _ _ (hL 4) (hL 5)) (u32_xor_nat 4294967295 _ (by decide) (hL 4)) (u32_and_nat _ _ hn (hL 6)) (u32_xor_nat _ _ (ha 4 5) (Nat.and_lt_two_pow _ (hL 6)))
    (wrap_add _ _) (wrap_add _ _)
    (u32_xor_nat _ _ (rr_lt _ _ (hL 0)) (rr_lt _ _ (hL 0))) (u32_xor_nat _ _ hA (rr_lt _ _ (hL 0))) (u32_and_nat _ _ (hL 0) (hL 1)) (u32_and_nat _ _ (hL 0) (hL 2)) (u32_xor_nat _ _ (ha 0 1) (ha 0 2))
    (u32_and_nat _ _ (hL 1) (hL 2)) (u32_xor_nat _ _ (Nat.xor_lt_two_pow (ha 0 1) (ha 0 2)) (ha 1 2)) (wrap_add _ _) (wrap_add _ _) (wrap_add _ _)
end Go.Proofs.YtnjmhcooejcehaaDoor
