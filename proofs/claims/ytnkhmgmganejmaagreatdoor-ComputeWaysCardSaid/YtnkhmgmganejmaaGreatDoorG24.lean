/- Part. -/
import Derived.Test.YtnkhmgmganejmaaGreatDoorG22
set_option maxRecDepth 100000
set_option maxHeartbeats 16000000
namespace Go.Proofs.YtnkhmgmganejmaaGreatDoor
open Go Go.RowKit
attribute [local go_sem] Oper.semAt_some Grows wide_fn eq4
theorem eq2C (a b a' b' : Int) (w : World) : (Op.equalIn 10000 41 (.agg #[.int .u64 a, .int .u64 b]) (.agg #[.int .u64 a', .int .u64 b'])).run Tryz.prog w = .ok (a == a' && b == b') w := by
 have u3 := Tryz.underlying22
 have a3 := Tryz.isAgg22
 have z3 := Tryz.sizeOf22
 rw [show (10000 : Nat) = 9999 + 1 from rfl, Op.equalIn]
 simp only [Sem.run_bind, run_underlying Tryz.underlying41, Result.andThen_ok]
 simp only [Std.Legacy.Range.forIn_eq_forIn_range', Std.Legacy.Range.size, Nat.sub_zero, Nat.add_sub_cancel, Nat.div_one, List.range'_succ, List.range'_zero, List.forIn_cons, List.forIn_nil]
 go_simp
 by_cases h1 : a = a' <;> by_cases h2 : b = b' <;> simp [h1, h2]
attribute [local go_sem] eq2C
theorem one_cells : wv 1 = .agg #[.int .u64 1, .int .u64 0, .int .u64 0, .int .u64 0] := wv_of ⟨by decide, by decide, by decide, by decide⟩
theorem ways_z (W : World) (hT : Tab W) (a b s n z : Nat) (ha : W256 a) (hb : W256 b) (r : Nat → Nat) (y : Nat → Int) (x2 x5 : Int) (hr : ∀ i, i < 6 → wv (r i) = .agg #[.int .u64 (y i), .int .u64 0, .int .u64 0, .int .u64 0])
  (g0 : TopIs 16 [b, a] (r 0)) (g1 : TopIs 17 [b, a] (r 1)) (g2 : TopIs 20 [b, a] (r 2)) (g3 : TopIs 18 [b, a] (r 3)) (g4 : TopIs 19 [b, a] (r 4)) (g5 : TopIs 20 [b, a] (r 5))
  (y0 : ¬ y 0 > 1) (y1 : ¬ y 1 > 1) (y2 : ¬ y 2 > 1) (y3 : ¬ y 3 > 1) (y4 : ¬ y 4 > 1) (y5 : ¬ y 5 > 1)
  (e0 : IntKind.u64.wrap (y 0) = y 0) (e1 : IntKind.u64.wrap (y 0 + y 1) = x2) (e2 : IntKind.u64.wrap (x2 + y 2) = 1) (e3 : IntKind.u64.wrap (y 3) = y 3) (e4 : IntKind.u64.wrap (y 3 + y 4) = x5) (e5 : IntKind.u64.wrap (x5 + y 5) = 1)
  (h1 : TopIs 1 [a, b] s) (h2 : TopIs 3 [b, s] a) (h3 : TopIs 25 [a] n) (h4 : TopIs 25 [n] a) (h5 : TopIs 21 [a] z) (h6 : TopIs 21 [z] 0) (h7 : TopIs 27 [a, 0] a)
  (hz : (lim a 0 == 0 && lim a 1 == 0 && lim a 2 == 0 && lim a 3 == 0) = true) :
  Calls Tryz.prog 5 #[wv a, wv b] W fun e w' => e = .returned (.bool true) ∧ Below W.heap.size W w' := by
 have hmx : Tryz.prog.follows .mixedOrders = true := by kernel_rfl
 have HTB := hid hT
 have Va := hid ha
 have Vb := hid hb
 have HAZ := hid hz
 have R0 := hid (hr 0 (by omega))
 have G0 := hid g0
 have R1 := hid (hr 1 (by omega))
 have G1 := hid g1
 have R2 := hid (hr 2 (by omega))
 have G2 := hid g2
 have R3 := hid (hr 3 (by omega))
 have G3 := hid g3
 have R4 := hid (hr 4 (by omega))
 have G4 := hid g4
 have R5 := hid (hr 5 (by omega))
 have G5 := hid g5
 have T1 := hid h1
 have T2 := hid h2
 have T3 := hid h3
 have T4 := hid h4
 have T5 := hid h5
 have T6 := hid h6
 have T7 := hid h7
 have Y0 := hid y0
 have Y1 := hid y1
 have Y2 := hid y2
 have Y3 := hid y3
 have Y4 := hid y4
 have Y5 := hid y5
 have E0 := hid e0
 have E1 := hid e1
 have E2 := hid e2
 have E3 := hid e3
 have E4 := hid e4
 have E5 := hid e5
 clear hT ha hb h1 h2 h3 h4 h5 h6 h7 hz hr g0 g1 g2 g3 g4 g5 y0 y1 y2 y3 y4 y5 e0 e1 e2 e3 e4 e5
 generalize y 0 = y0 at *
 generalize r 0 = r0 at *
 generalize y 1 = y1 at *
 generalize r 1 = r1 at *
 generalize y 2 = y2 at *
 generalize r 2 = r2 at *
 generalize y 3 = y3 at *
 generalize r 3 = r3 at *
 generalize y 4 = y4 at *
 generalize r 4 = r4 at *
 generalize y 5 = y5 at *
 generalize r 5 = r5 at *
 unfold wv
 go_enter Tryz.func5, Tryz.ntmps5
 have q1 := newA W (.cells #[.int .u64 (lim a 0), .int .u64 (lim a 1), .int .u64 (lim a 2), .int .u64 (lim a 3)] 24)
 have HAt := Has.new W 24 #[.int .u64 (lim a 0), .int .u64 (lim a 1), .int .u64 (lim a 2), .int .u64 (lim a 3)]
 try simp only [World.size_alloc] at HAt
 have HA := hid HAt
 clear HAt
 replace HTB := hid (HTB.out.later q1)
 have QQ := hid q1
 clear q1
 have LB := hid QQ.out.size
 have q2 := (Below.refl (W.alloc (.cells #[.int .u64 (lim a 0), .int .u64 (lim a 1), .int .u64 (lim a 2), .int .u64 (lim a 3)] 24)).heap.size (W.alloc (.cells #[.int .u64 (lim a 0), .int .u64 (lim a 1), .int .u64 (lim a 2), .int .u64 (lim a 3)] 24))).alloc (Nat.le_refl _) (.cells #[.int .u64 (lim b 0), .int .u64 (lim b 1), .int .u64 (lim b 2), .int .u64 (lim b 3)] 24)
 have HBt := Has.new (W.alloc (.cells #[.int .u64 (lim a 0), .int .u64 (lim a 1), .int .u64 (lim a 2), .int .u64 (lim a 3)] 24)) 24 #[.int .u64 (lim b 0), .int .u64 (lim b 1), .int .u64 (lim b 2), .int .u64 (lim b 3)]
 try simp only [World.size_alloc] at HBt
 have HB := hid HBt
 clear HBt
 replace HTB := hid (HTB.out.later q2)
 replace HA := hid (HA.out.later q2)
 replace QQ := hid (QQ.out.trans (q2.mono QQ.out.size))
 clear q2
 go_wp2_with fail
 refine (awake_any _ HTB.out).mono ?_
 rintro _ w3 ⟨rfl, q⟩
 replace HTB := hid (HTB.out.later q)
 replace HA := hid (HA.out.later q)
 replace HB := hid (HB.out.later q)
 replace QQ := hid (QQ.out.trans (q.mono QQ.out.size))
 clear q
 have NA := hid HA.out.lt
 have NB := hid HB.out.lt
 have QU := hid QQ.out.size
 have LU := hid (Nat.lt_of_lt_of_le HTB.out.lt (Nat.le_refl _))
 have q4 := newA w3 (.cells #[.int .u64 0, .int .u64 0] 41)
 have HUt := Has.new w3 41 #[.int .u64 0, .int .u64 0]
 try simp only [World.size_alloc] at HUt
 have HU := hid HUt
 clear HUt
 replace HTB := hid (HTB.out.later q4)
 replace HA := hid (HA.out.later q4)
 replace HB := hid (HB.out.later q4)
 replace QQ := hid (QQ.out.trans (q4.mono QQ.out.size))
 clear q4
 have NK := hid HU.out.lt
 try simp only [World.size_alloc] at NK
 have q5 := (Below.refl (w3.alloc (.cells #[.int .u64 0, .int .u64 0] 41)).heap.size (w3.alloc (.cells #[.int .u64 0, .int .u64 0] 41))).alloc (Nat.le_refl _) (.cells #[.int .u8 16, .int .u8 17, .int .u8 20, .int .u8 18, .int .u8 19, .int .u8 20] 5)
 have HKt := Has.new (w3.alloc (.cells #[.int .u64 0, .int .u64 0] 41)) 5 #[.int .u8 16, .int .u8 17, .int .u8 20, .int .u8 18, .int .u8 19, .int .u8 20]
 try simp only [World.size_alloc] at HKt
 have HK := hid HKt
 clear HKt
 replace HTB := hid (HTB.out.later q5)
 replace HA := hid (HA.out.later q5)
 replace HB := hid (HB.out.later q5)
 replace HU := hid (HU.out.later q5)
 replace QQ := hid (QQ.out.trans (q5.mono QQ.out.size))
 clear q5
 go_wp2_with fail
 refine wp_loop_rounds 7 ?_
 rw [rounds_succ]
 have kK0 := HK.out.cell 0 _ rfl
 have kK1 := HK.out.cell 1 _ rfl
 have kK2 := HK.out.cell 2 _ rfl
 have kK3 := HK.out.cell 3 _ rfl
 have kK4 := HK.out.cell 4 _ rfl
 have kK5 := HK.out.cell 5 _ rfl
 have kA0 := HA.out.cell 0 _ rfl
 have kA1 := HA.out.cell 1 _ rfl
 have kA2 := HA.out.cell 2 _ rfl
 have kA3 := HA.out.cell 3 _ rfl
 have kB0 := HB.out.cell 0 _ rfl
 have kB1 := HB.out.cell 1 _ rfl
 have kB2 := HB.out.cell 2 _ rfl
 have kB3 := HB.out.cell 3 _ rfl
 have q6 := (Below.refl ((w3.alloc (.cells #[.int .u64 0, .int .u64 0] 41)).alloc (.cells #[.int .u8 16, .int .u8 17, .int .u8 20, .int .u8 18, .int .u8 19, .int .u8 20] 5)).heap.size ((w3.alloc (.cells #[.int .u64 0, .int .u64 0] 41)).alloc (.cells #[.int .u8 16, .int .u8 17, .int .u8 20, .int .u8 18, .int .u8 19, .int .u8 20] 5))).alloc (Nat.le_refl _) (.cells #[.int .u64 (lim b 0), .int .u64 (lim b 1), .int .u64 (lim b 2), .int .u64 (lim b 3), .int .u64 (lim a 0), .int .u64 (lim a 1), .int .u64 (lim a 2), .int .u64 (lim a 3)] 24)
 have S1t := made_ofC ((w3.alloc (.cells #[.int .u64 0, .int .u64 0] 41)).alloc (.cells #[.int .u8 16, .int .u8 17, .int .u8 20, .int .u8 18, .int .u8 19, .int .u8 20] 5)) [b, a] [.int .u64 (lim b 0), .int .u64 (lim b 1), .int .u64 (lim b 2), .int .u64 (lim b 3), .int .u64 (lim a 0), .int .u64 (lim a 1), .int .u64 (lim a 2), .int .u64 (lim a 3)] rfl (by simp only [List.mem_cons, List.not_mem_nil, or_false, forall_eq_or_imp, forall_eq]; exact ⟨Vb.out, Va.out⟩) (by simp)
 try simp only [World.size_alloc] at S1t
 have S1 := hid S1t
 clear S1t
 replace HTB := hid (HTB.out.later q6)
 replace HA := hid (HA.out.later q6)
 replace HB := hid (HB.out.later q6)
 replace HU := hid (HU.out.later q6)
 replace HK := hid (HK.out.later q6)
 replace QQ := hid (QQ.out.trans (q6.mono QQ.out.size))
 clear q6
 go_wp2_with fail
 refine (top_is _ HTB.out _ _ _ _ (by decide) S1.out (by simp) G0.out _ R0.out).mono ?_
 rintro _ w7 ⟨rfl, _, q⟩
 replace HTB := hid (HTB.out.later q)
 replace HA := hid (HA.out.later q)
 replace HB := hid (HB.out.later q)
 replace HU := hid (HU.out.later q)
 replace HK := hid (HK.out.later q)
 replace S1 := hid (S1.out.later q)
 replace QQ := hid (QQ.out.trans (q.mono QQ.out.size))
 clear q
 clear kK0 kK1 kK2 kK3 kK4 kK5 kA0 kA1 kA2 kA3 kB0 kB1 kB2 kB3
 clear S1
 have ZR := Has.new w7 24 #[.int .u64 0, .int .u64 0, .int .u64 0, .int .u64 0]
 try simp only [World.size_alloc] at ZR
 have zR0 := ZR.cell 0 _ rfl
 have yR0 := ZR.frozen 0
 have zR1 := ZR.cell 1 _ rfl
 have yR1 := ZR.frozen 1
 have zR2 := ZR.cell 2 _ rfl
 have yR2 := ZR.frozen 2
 have zR3 := ZR.cell 3 _ rfl
 have yR3 := ZR.frozen 3
 clear ZR
 have LR := hid QQ.out.size
 have q8 := newA w7 (.cells #[.int .u64 y0, .int .u64 0, .int .u64 0, .int .u64 0] 24)
 have HRt := Has.new w7 24 #[.int .u64 y0, .int .u64 0, .int .u64 0, .int .u64 0]
 try simp only [World.size_alloc] at HRt
 have HR := hid HRt
 clear HRt
 replace HTB := hid (HTB.out.later q8)
 replace HA := hid (HA.out.later q8)
 replace HB := hid (HB.out.later q8)
 replace HU := hid (HU.out.later q8)
 replace HK := hid (HK.out.later q8)
 replace QQ := hid (QQ.out.trans (q8.mono QQ.out.size))
 clear q8
 have kR0 := HR.out.cell 0 _ rfl
 have kR1 := HR.out.cell 1 _ rfl
 have kR2 := HR.out.cell 2 _ rfl
 have kR3 := HR.out.cell 3 _ rfl
 have hy := Y0.out
 go_wp2_with fail
 clear hy
 clear zR0 yR0 zR1 yR1 zR2 yR2 zR3 yR3 kR0 kR1 kR2 kR3
 obtain ⟨V0, hV0⟩ : ∃ V, (w7.alloc (.cells #[.int .u64 y0, .int .u64 0, .int .u64 0, .int .u64 0] 24)) = V := ⟨_, rfl⟩
 rw [hV0] at HTB HA HB HU HK HR QQ ⊢
 clear hV0
 have hu : ∀ x : Ext V0, x.w.cell? ⟨w3.heap.size, 0, none⟩ = some (.int .u64 0) := fun x => (HU.out.later x.below).cell 0 _ rfl
 have hr : ∀ x : Ext V0, x.w.cell? ⟨w7.heap.size, 0, none⟩ = some (.int .u64 y0) := fun x => (HR.out.later x.below).cell 0 _ rfl
 have he := E0.out
 refine wp_region_mix (C := Grows V0) [some true, some true, some true, some true, some true, some true, some true, some true, some true, none, none] hmx (by kernel_rfl) (by kernel_rfl) (grows_refl V0) ?_
 simp only [headOf, tailOf]
 repeat (go_big_quiet_step (fail))
 refine wpQuiet_nil ?_
 rintro _ ⟨x0, rfl⟩
 clear hu hr he
 have qx := x0.below
 replace HTB := hid (HTB.out.later qx)
 replace HA := hid (HA.out.later qx)
 replace HB := hid (HB.out.later qx)
 replace HU := hid (HU.out.later qx)
 replace HK := hid (HK.out.later qx)
 replace HR := hid (HR.out.later qx)
 replace QQ := hid (QQ.out.trans (qx.mono QQ.out.size))
 clear qx HR
 have c0 := HU.out.cell 0 _ rfl
 have z0 := HU.out.frozen 0
 have PA := hid (HA.out.other (p := ⟨w3.heap.size, 0, none⟩) (Nat.ne_of_lt NA.out) (.int .u64 y0))
 have PB := hid (HB.out.other (p := ⟨w3.heap.size, 0, none⟩) (Nat.ne_of_lt NB.out) (.int .u64 y0))
 have PK := hid (HK.out.other (p := ⟨w3.heap.size, 0, none⟩) (Nat.ne_of_gt NK.out) (.int .u64 y0))
 have PU := hid (HU.out.set 0 (.int .u64 y0))
 have PT := hid (HTB.out.other (p := ⟨w3.heap.size, 0, none⟩) LU.out (.int .u64 y0))
 have PQ := hid (QQ.out.setCell (p := ⟨w3.heap.size, 0, none⟩) QU.out (.int .u64 y0))
 clear HA HB HK HU HTB QQ
 go_wp2_with fail
 rw [calmPost_normal]
 go_wp2_with fail
 obtain ⟨Y0, hY0⟩ : ∃ V, (x0.w.setCell ⟨w3.heap.size, 0, none⟩ (.int .u64 y0)) = V := ⟨_, rfl⟩
 rw [hY0] at PA PB PK PU PT PQ ⊢
 clear hY0 c0 z0
 have HA := PA
 clear PA
 have HB := PB
 clear PB
 have HK := PK
 clear PK
 have HU := PU
 clear PU
 have HTB := PT
 clear PT
 have QQ := PQ
 clear PQ
 rw [rounds_succ]
 have kK0 := HK.out.cell 0 _ rfl
 have kK1 := HK.out.cell 1 _ rfl
 have kK2 := HK.out.cell 2 _ rfl
 have kK3 := HK.out.cell 3 _ rfl
 have kK4 := HK.out.cell 4 _ rfl
 have kK5 := HK.out.cell 5 _ rfl
 have kA0 := HA.out.cell 0 _ rfl
 have kA1 := HA.out.cell 1 _ rfl
 have kA2 := HA.out.cell 2 _ rfl
 have kA3 := HA.out.cell 3 _ rfl
 have kB0 := HB.out.cell 0 _ rfl
 have kB1 := HB.out.cell 1 _ rfl
 have kB2 := HB.out.cell 2 _ rfl
 have kB3 := HB.out.cell 3 _ rfl
 have q9 := newA Y0 (.cells #[.int .u64 (lim b 0), .int .u64 (lim b 1), .int .u64 (lim b 2), .int .u64 (lim b 3), .int .u64 (lim a 0), .int .u64 (lim a 1), .int .u64 (lim a 2), .int .u64 (lim a 3)] 24)
 have S2t := made_ofC Y0 [b, a] [.int .u64 (lim b 0), .int .u64 (lim b 1), .int .u64 (lim b 2), .int .u64 (lim b 3), .int .u64 (lim a 0), .int .u64 (lim a 1), .int .u64 (lim a 2), .int .u64 (lim a 3)] rfl (by simp only [List.mem_cons, List.not_mem_nil, or_false, forall_eq_or_imp, forall_eq]; exact ⟨Vb.out, Va.out⟩) (by simp)
 try simp only [World.size_alloc] at S2t
 have S2 := hid S2t
 clear S2t
 replace HTB := hid (HTB.out.later q9)
 replace HA := hid (HA.out.later q9)
 replace HB := hid (HB.out.later q9)
 replace HU := hid (HU.out.later q9)
 replace HK := hid (HK.out.later q9)
 replace QQ := hid (QQ.out.trans (q9.mono QQ.out.size))
 clear q9
 go_wp2_with fail
 refine (top_is _ HTB.out _ _ _ _ (by decide) S2.out (by simp) G1.out _ R1.out).mono ?_
 rintro _ w10 ⟨rfl, _, q⟩
 replace HTB := hid (HTB.out.later q)
 replace HA := hid (HA.out.later q)
 replace HB := hid (HB.out.later q)
 replace HU := hid (HU.out.later q)
 replace HK := hid (HK.out.later q)
 replace S2 := hid (S2.out.later q)
 replace QQ := hid (QQ.out.trans (q.mono QQ.out.size))
 clear q
 clear kK0 kK1 kK2 kK3 kK4 kK5 kA0 kA1 kA2 kA3 kB0 kB1 kB2 kB3
 clear S2
 have ZR := Has.new w10 24 #[.int .u64 0, .int .u64 0, .int .u64 0, .int .u64 0]
 try simp only [World.size_alloc] at ZR
 have zR0 := ZR.cell 0 _ rfl
 have yR0 := ZR.frozen 0
 have zR1 := ZR.cell 1 _ rfl
 have yR1 := ZR.frozen 1
 have zR2 := ZR.cell 2 _ rfl
 have yR2 := ZR.frozen 2
 have zR3 := ZR.cell 3 _ rfl
 have yR3 := ZR.frozen 3
 clear ZR
 have LR := hid QQ.out.size
 have q11 := newA w10 (.cells #[.int .u64 y1, .int .u64 0, .int .u64 0, .int .u64 0] 24)
 have HRt := Has.new w10 24 #[.int .u64 y1, .int .u64 0, .int .u64 0, .int .u64 0]
 try simp only [World.size_alloc] at HRt
 have HR := hid HRt
 clear HRt
 replace HTB := hid (HTB.out.later q11)
 replace HA := hid (HA.out.later q11)
 replace HB := hid (HB.out.later q11)
 replace HU := hid (HU.out.later q11)
 replace HK := hid (HK.out.later q11)
 replace QQ := hid (QQ.out.trans (q11.mono QQ.out.size))
 clear q11
 have kR0 := HR.out.cell 0 _ rfl
 have kR1 := HR.out.cell 1 _ rfl
 have kR2 := HR.out.cell 2 _ rfl
 have kR3 := HR.out.cell 3 _ rfl
 have hy := Y1.out
 go_wp2_with fail
 clear hy
 clear zR0 yR0 zR1 yR1 zR2 yR2 zR3 yR3 kR0 kR1 kR2 kR3
 obtain ⟨V1, hV1⟩ : ∃ V, (w10.alloc (.cells #[.int .u64 y1, .int .u64 0, .int .u64 0, .int .u64 0] 24)) = V := ⟨_, rfl⟩
 rw [hV1] at HTB HA HB HU HK HR QQ ⊢
 clear hV1
 have hu : ∀ x : Ext V1, x.w.cell? ⟨w3.heap.size, 0, none⟩ = some (.int .u64 (y0)) := fun x => (HU.out.later x.below).cell 0 _ rfl
 have hr : ∀ x : Ext V1, x.w.cell? ⟨w10.heap.size, 0, none⟩ = some (.int .u64 y1) := fun x => (HR.out.later x.below).cell 0 _ rfl
 have he := E1.out
 refine wp_region_mix (C := Grows V1) [some true, some true, some true, some true, some true, some true, some true, some true, some true, none, none] hmx (by kernel_rfl) (by kernel_rfl) (grows_refl V1) ?_
 simp only [headOf, tailOf]
 repeat (go_big_quiet_step (fail))
 refine wpQuiet_nil ?_
 rintro _ ⟨x1, rfl⟩
 clear hu hr he
 have qx := x1.below
 replace HTB := hid (HTB.out.later qx)
 replace HA := hid (HA.out.later qx)
 replace HB := hid (HB.out.later qx)
 replace HU := hid (HU.out.later qx)
 replace HK := hid (HK.out.later qx)
 replace HR := hid (HR.out.later qx)
 replace QQ := hid (QQ.out.trans (qx.mono QQ.out.size))
 clear qx HR
 have c0 := HU.out.cell 0 _ rfl
 have z0 := HU.out.frozen 0
 have PA := hid (HA.out.other (p := ⟨w3.heap.size, 0, none⟩) (Nat.ne_of_lt NA.out) (.int .u64 x2))
 have PB := hid (HB.out.other (p := ⟨w3.heap.size, 0, none⟩) (Nat.ne_of_lt NB.out) (.int .u64 x2))
 have PK := hid (HK.out.other (p := ⟨w3.heap.size, 0, none⟩) (Nat.ne_of_gt NK.out) (.int .u64 x2))
 have PU := hid (HU.out.set 0 (.int .u64 x2))
 have PT := hid (HTB.out.other (p := ⟨w3.heap.size, 0, none⟩) LU.out (.int .u64 x2))
 have PQ := hid (QQ.out.setCell (p := ⟨w3.heap.size, 0, none⟩) QU.out (.int .u64 x2))
 clear HA HB HK HU HTB QQ
 go_wp2_with fail
 rw [calmPost_normal]
 go_wp2_with fail
 obtain ⟨Y1, hY1⟩ : ∃ V, (x1.w.setCell ⟨w3.heap.size, 0, none⟩ (.int .u64 x2)) = V := ⟨_, rfl⟩
 rw [hY1] at PA PB PK PU PT PQ ⊢
 clear hY1 c0 z0
 have HA := PA
 clear PA
 have HB := PB
 clear PB
 have HK := PK
 clear PK
 have HU := PU
 clear PU
 have HTB := PT
 clear PT
 have QQ := PQ
 clear PQ
 rw [rounds_succ]
 have kK0 := HK.out.cell 0 _ rfl
 have kK1 := HK.out.cell 1 _ rfl
 have kK2 := HK.out.cell 2 _ rfl
 have kK3 := HK.out.cell 3 _ rfl
 have kK4 := HK.out.cell 4 _ rfl
 have kK5 := HK.out.cell 5 _ rfl
 have kA0 := HA.out.cell 0 _ rfl
 have kA1 := HA.out.cell 1 _ rfl
 have kA2 := HA.out.cell 2 _ rfl
 have kA3 := HA.out.cell 3 _ rfl
 have kB0 := HB.out.cell 0 _ rfl
 have kB1 := HB.out.cell 1 _ rfl
 have kB2 := HB.out.cell 2 _ rfl
 have kB3 := HB.out.cell 3 _ rfl
 have q12 := newA Y1 (.cells #[.int .u64 (lim b 0), .int .u64 (lim b 1), .int .u64 (lim b 2), .int .u64 (lim b 3), .int .u64 (lim a 0), .int .u64 (lim a 1), .int .u64 (lim a 2), .int .u64 (lim a 3)] 24)
 have S3t := made_ofC Y1 [b, a] [.int .u64 (lim b 0), .int .u64 (lim b 1), .int .u64 (lim b 2), .int .u64 (lim b 3), .int .u64 (lim a 0), .int .u64 (lim a 1), .int .u64 (lim a 2), .int .u64 (lim a 3)] rfl (by simp only [List.mem_cons, List.not_mem_nil, or_false, forall_eq_or_imp, forall_eq]; exact ⟨Vb.out, Va.out⟩) (by simp)
 try simp only [World.size_alloc] at S3t
 have S3 := hid S3t
 clear S3t
 replace HTB := hid (HTB.out.later q12)
 replace HA := hid (HA.out.later q12)
 replace HB := hid (HB.out.later q12)
 replace HU := hid (HU.out.later q12)
 replace HK := hid (HK.out.later q12)
 replace QQ := hid (QQ.out.trans (q12.mono QQ.out.size))
 clear q12
 go_wp2_with fail
 refine (top_is _ HTB.out _ _ _ _ (by decide) S3.out (by simp) G2.out _ R2.out).mono ?_
 rintro _ w13 ⟨rfl, _, q⟩
 replace HTB := hid (HTB.out.later q)
 replace HA := hid (HA.out.later q)
 replace HB := hid (HB.out.later q)
 replace HU := hid (HU.out.later q)
 replace HK := hid (HK.out.later q)
 replace S3 := hid (S3.out.later q)
 replace QQ := hid (QQ.out.trans (q.mono QQ.out.size))
 clear q
 clear kK0 kK1 kK2 kK3 kK4 kK5 kA0 kA1 kA2 kA3 kB0 kB1 kB2 kB3
 clear S3
 have ZR := Has.new w13 24 #[.int .u64 0, .int .u64 0, .int .u64 0, .int .u64 0]
 try simp only [World.size_alloc] at ZR
 have zR0 := ZR.cell 0 _ rfl
 have yR0 := ZR.frozen 0
 have zR1 := ZR.cell 1 _ rfl
 have yR1 := ZR.frozen 1
 have zR2 := ZR.cell 2 _ rfl
 have yR2 := ZR.frozen 2
 have zR3 := ZR.cell 3 _ rfl
 have yR3 := ZR.frozen 3
 clear ZR
 have LR := hid QQ.out.size
 have q14 := newA w13 (.cells #[.int .u64 y2, .int .u64 0, .int .u64 0, .int .u64 0] 24)
 have HRt := Has.new w13 24 #[.int .u64 y2, .int .u64 0, .int .u64 0, .int .u64 0]
 try simp only [World.size_alloc] at HRt
 have HR := hid HRt
 clear HRt
 replace HTB := hid (HTB.out.later q14)
 replace HA := hid (HA.out.later q14)
 replace HB := hid (HB.out.later q14)
 replace HU := hid (HU.out.later q14)
 replace HK := hid (HK.out.later q14)
 replace QQ := hid (QQ.out.trans (q14.mono QQ.out.size))
 clear q14
 have kR0 := HR.out.cell 0 _ rfl
 have kR1 := HR.out.cell 1 _ rfl
 have kR2 := HR.out.cell 2 _ rfl
 have kR3 := HR.out.cell 3 _ rfl
 have hy := Y2.out
 go_wp2_with fail
 clear hy
 clear zR0 yR0 zR1 yR1 zR2 yR2 zR3 yR3 kR0 kR1 kR2 kR3
 obtain ⟨V2, hV2⟩ : ∃ V, (w13.alloc (.cells #[.int .u64 y2, .int .u64 0, .int .u64 0, .int .u64 0] 24)) = V := ⟨_, rfl⟩
 rw [hV2] at HTB HA HB HU HK HR QQ ⊢
 clear hV2
 have hu : ∀ x : Ext V2, x.w.cell? ⟨w3.heap.size, 0, none⟩ = some (.int .u64 (x2)) := fun x => (HU.out.later x.below).cell 0 _ rfl
 have hr : ∀ x : Ext V2, x.w.cell? ⟨w13.heap.size, 0, none⟩ = some (.int .u64 y2) := fun x => (HR.out.later x.below).cell 0 _ rfl
 have he := E2.out
 refine wp_region_mix (C := Grows V2) [some true, some true, some true, some true, some true, some true, some true, some true, some true, none, none] hmx (by kernel_rfl) (by kernel_rfl) (grows_refl V2) ?_
 simp only [headOf, tailOf]
 repeat (go_big_quiet_step (fail))
 refine wpQuiet_nil ?_
 rintro _ ⟨x2, rfl⟩
 clear hu hr he
 have qx := x2.below
 replace HTB := hid (HTB.out.later qx)
 replace HA := hid (HA.out.later qx)
 replace HB := hid (HB.out.later qx)
 replace HU := hid (HU.out.later qx)
 replace HK := hid (HK.out.later qx)
 replace HR := hid (HR.out.later qx)
 replace QQ := hid (QQ.out.trans (qx.mono QQ.out.size))
 clear qx HR
 have c0 := HU.out.cell 0 _ rfl
 have z0 := HU.out.frozen 0
 have PA := hid (HA.out.other (p := ⟨w3.heap.size, 0, none⟩) (Nat.ne_of_lt NA.out) (.int .u64 1))
 have PB := hid (HB.out.other (p := ⟨w3.heap.size, 0, none⟩) (Nat.ne_of_lt NB.out) (.int .u64 1))
 have PK := hid (HK.out.other (p := ⟨w3.heap.size, 0, none⟩) (Nat.ne_of_gt NK.out) (.int .u64 1))
 have PU := hid (HU.out.set 0 (.int .u64 1))
 have PT := hid (HTB.out.other (p := ⟨w3.heap.size, 0, none⟩) LU.out (.int .u64 1))
 have PQ := hid (QQ.out.setCell (p := ⟨w3.heap.size, 0, none⟩) QU.out (.int .u64 1))
 clear HA HB HK HU HTB QQ
 go_wp2_with fail
 rw [calmPost_normal]
 go_wp2_with fail
 obtain ⟨Y2, hY2⟩ : ∃ V, (x2.w.setCell ⟨w3.heap.size, 0, none⟩ (.int .u64 1)) = V := ⟨_, rfl⟩
 rw [hY2] at PA PB PK PU PT PQ ⊢
 clear hY2 c0 z0
 have HA := PA
 clear PA
 have HB := PB
 clear PB
 have HK := PK
 clear PK
 have HU := PU
 clear PU
 have HTB := PT
 clear PT
 have QQ := PQ
 clear PQ
 rw [rounds_succ]
 have kK0 := HK.out.cell 0 _ rfl
 have kK1 := HK.out.cell 1 _ rfl
 have kK2 := HK.out.cell 2 _ rfl
 have kK3 := HK.out.cell 3 _ rfl
 have kK4 := HK.out.cell 4 _ rfl
 have kK5 := HK.out.cell 5 _ rfl
 have kA0 := HA.out.cell 0 _ rfl
 have kA1 := HA.out.cell 1 _ rfl
 have kA2 := HA.out.cell 2 _ rfl
 have kA3 := HA.out.cell 3 _ rfl
 have kB0 := HB.out.cell 0 _ rfl
 have kB1 := HB.out.cell 1 _ rfl
 have kB2 := HB.out.cell 2 _ rfl
 have kB3 := HB.out.cell 3 _ rfl
 have q15 := newA Y2 (.cells #[.int .u64 (lim b 0), .int .u64 (lim b 1), .int .u64 (lim b 2), .int .u64 (lim b 3), .int .u64 (lim a 0), .int .u64 (lim a 1), .int .u64 (lim a 2), .int .u64 (lim a 3)] 24)
 have S4t := made_ofC Y2 [b, a] [.int .u64 (lim b 0), .int .u64 (lim b 1), .int .u64 (lim b 2), .int .u64 (lim b 3), .int .u64 (lim a 0), .int .u64 (lim a 1), .int .u64 (lim a 2), .int .u64 (lim a 3)] rfl (by simp only [List.mem_cons, List.not_mem_nil, or_false, forall_eq_or_imp, forall_eq]; exact ⟨Vb.out, Va.out⟩) (by simp)
 try simp only [World.size_alloc] at S4t
 have S4 := hid S4t
 clear S4t
 replace HTB := hid (HTB.out.later q15)
 replace HA := hid (HA.out.later q15)
 replace HB := hid (HB.out.later q15)
 replace HU := hid (HU.out.later q15)
 replace HK := hid (HK.out.later q15)
 replace QQ := hid (QQ.out.trans (q15.mono QQ.out.size))
 clear q15
 go_wp2_with fail
 refine (top_is _ HTB.out _ _ _ _ (by decide) S4.out (by simp) G3.out _ R3.out).mono ?_
 rintro _ w16 ⟨rfl, _, q⟩
 replace HTB := hid (HTB.out.later q)
 replace HA := hid (HA.out.later q)
 replace HB := hid (HB.out.later q)
 replace HU := hid (HU.out.later q)
 replace HK := hid (HK.out.later q)
 replace S4 := hid (S4.out.later q)
 replace QQ := hid (QQ.out.trans (q.mono QQ.out.size))
 clear q
 clear kK0 kK1 kK2 kK3 kK4 kK5 kA0 kA1 kA2 kA3 kB0 kB1 kB2 kB3
 clear S4
 have ZR := Has.new w16 24 #[.int .u64 0, .int .u64 0, .int .u64 0, .int .u64 0]
 try simp only [World.size_alloc] at ZR
 have zR0 := ZR.cell 0 _ rfl
 have yR0 := ZR.frozen 0
 have zR1 := ZR.cell 1 _ rfl
 have yR1 := ZR.frozen 1
 have zR2 := ZR.cell 2 _ rfl
 have yR2 := ZR.frozen 2
 have zR3 := ZR.cell 3 _ rfl
 have yR3 := ZR.frozen 3
 clear ZR
 have LR := hid QQ.out.size
 have q17 := newA w16 (.cells #[.int .u64 y3, .int .u64 0, .int .u64 0, .int .u64 0] 24)
 have HRt := Has.new w16 24 #[.int .u64 y3, .int .u64 0, .int .u64 0, .int .u64 0]
 try simp only [World.size_alloc] at HRt
 have HR := hid HRt
 clear HRt
 replace HTB := hid (HTB.out.later q17)
 replace HA := hid (HA.out.later q17)
 replace HB := hid (HB.out.later q17)
 replace HU := hid (HU.out.later q17)
 replace HK := hid (HK.out.later q17)
 replace QQ := hid (QQ.out.trans (q17.mono QQ.out.size))
 clear q17
 have kR0 := HR.out.cell 0 _ rfl
 have kR1 := HR.out.cell 1 _ rfl
 have kR2 := HR.out.cell 2 _ rfl
 have kR3 := HR.out.cell 3 _ rfl
 have hy := Y3.out
 go_wp2_with fail
 clear hy
 clear zR0 yR0 zR1 yR1 zR2 yR2 zR3 yR3 kR0 kR1 kR2 kR3
 obtain ⟨V3, hV3⟩ : ∃ V, (w16.alloc (.cells #[.int .u64 y3, .int .u64 0, .int .u64 0, .int .u64 0] 24)) = V := ⟨_, rfl⟩
 rw [hV3] at HTB HA HB HU HK HR QQ ⊢
 clear hV3
 have hu : ∀ x : Ext V3, x.w.cell? ⟨w3.heap.size, 1, none⟩ = some (.int .u64 0) := fun x => (HU.out.later x.below).cell 1 _ rfl
 have hr : ∀ x : Ext V3, x.w.cell? ⟨w16.heap.size, 0, none⟩ = some (.int .u64 y3) := fun x => (HR.out.later x.below).cell 0 _ rfl
 have he := E3.out
 refine wp_region_mix (C := Grows V3) [some true, some true, some true, some true, some true, some true, some true, some true, some true, none, none] hmx (by kernel_rfl) (by kernel_rfl) (grows_refl V3) ?_
 simp only [headOf, tailOf]
 repeat (go_big_quiet_step (fail))
 refine wpQuiet_nil ?_
 rintro _ ⟨x3, rfl⟩
 clear hu hr he
 have qx := x3.below
 replace HTB := hid (HTB.out.later qx)
 replace HA := hid (HA.out.later qx)
 replace HB := hid (HB.out.later qx)
 replace HU := hid (HU.out.later qx)
 replace HK := hid (HK.out.later qx)
 replace HR := hid (HR.out.later qx)
 replace QQ := hid (QQ.out.trans (qx.mono QQ.out.size))
 clear qx HR
 have c0 := HU.out.cell 1 _ rfl
 have z0 := HU.out.frozen 1
 have PA := hid (HA.out.other (p := ⟨w3.heap.size, 1, none⟩) (Nat.ne_of_lt NA.out) (.int .u64 y3))
 have PB := hid (HB.out.other (p := ⟨w3.heap.size, 1, none⟩) (Nat.ne_of_lt NB.out) (.int .u64 y3))
 have PK := hid (HK.out.other (p := ⟨w3.heap.size, 1, none⟩) (Nat.ne_of_gt NK.out) (.int .u64 y3))
 have PU := hid (HU.out.set 1 (.int .u64 y3))
 have PT := hid (HTB.out.other (p := ⟨w3.heap.size, 1, none⟩) LU.out (.int .u64 y3))
 have PQ := hid (QQ.out.setCell (p := ⟨w3.heap.size, 1, none⟩) QU.out (.int .u64 y3))
 clear HA HB HK HU HTB QQ
 go_wp2_with fail
 rw [calmPost_normal]
 go_wp2_with fail
 obtain ⟨Y3, hY3⟩ : ∃ V, (x3.w.setCell ⟨w3.heap.size, 1, none⟩ (.int .u64 y3)) = V := ⟨_, rfl⟩
 rw [hY3] at PA PB PK PU PT PQ ⊢
 clear hY3 c0 z0
 have HA := PA
 clear PA
 have HB := PB
 clear PB
 have HK := PK
 clear PK
 have HU := PU
 clear PU
 have HTB := PT
 clear PT
 have QQ := PQ
 clear PQ
 rw [rounds_succ]
 have kK0 := HK.out.cell 0 _ rfl
 have kK1 := HK.out.cell 1 _ rfl
 have kK2 := HK.out.cell 2 _ rfl
 have kK3 := HK.out.cell 3 _ rfl
 have kK4 := HK.out.cell 4 _ rfl
 have kK5 := HK.out.cell 5 _ rfl
 have kA0 := HA.out.cell 0 _ rfl
 have kA1 := HA.out.cell 1 _ rfl
 have kA2 := HA.out.cell 2 _ rfl
 have kA3 := HA.out.cell 3 _ rfl
 have kB0 := HB.out.cell 0 _ rfl
 have kB1 := HB.out.cell 1 _ rfl
 have kB2 := HB.out.cell 2 _ rfl
 have kB3 := HB.out.cell 3 _ rfl
 have q18 := newA Y3 (.cells #[.int .u64 (lim b 0), .int .u64 (lim b 1), .int .u64 (lim b 2), .int .u64 (lim b 3), .int .u64 (lim a 0), .int .u64 (lim a 1), .int .u64 (lim a 2), .int .u64 (lim a 3)] 24)
 have S5t := made_ofC Y3 [b, a] [.int .u64 (lim b 0), .int .u64 (lim b 1), .int .u64 (lim b 2), .int .u64 (lim b 3), .int .u64 (lim a 0), .int .u64 (lim a 1), .int .u64 (lim a 2), .int .u64 (lim a 3)] rfl (by simp only [List.mem_cons, List.not_mem_nil, or_false, forall_eq_or_imp, forall_eq]; exact ⟨Vb.out, Va.out⟩) (by simp)
 try simp only [World.size_alloc] at S5t
 have S5 := hid S5t
 clear S5t
 replace HTB := hid (HTB.out.later q18)
 replace HA := hid (HA.out.later q18)
 replace HB := hid (HB.out.later q18)
 replace HU := hid (HU.out.later q18)
 replace HK := hid (HK.out.later q18)
 replace QQ := hid (QQ.out.trans (q18.mono QQ.out.size))
 clear q18
 go_wp2_with fail
 refine (top_is _ HTB.out _ _ _ _ (by decide) S5.out (by simp) G4.out _ R4.out).mono ?_
 rintro _ w19 ⟨rfl, _, q⟩
 replace HTB := hid (HTB.out.later q)
 replace HA := hid (HA.out.later q)
 replace HB := hid (HB.out.later q)
 replace HU := hid (HU.out.later q)
 replace HK := hid (HK.out.later q)
 replace S5 := hid (S5.out.later q)
 replace QQ := hid (QQ.out.trans (q.mono QQ.out.size))
 clear q
 clear kK0 kK1 kK2 kK3 kK4 kK5 kA0 kA1 kA2 kA3 kB0 kB1 kB2 kB3
 clear S5
 have ZR := Has.new w19 24 #[.int .u64 0, .int .u64 0, .int .u64 0, .int .u64 0]
 try simp only [World.size_alloc] at ZR
 have zR0 := ZR.cell 0 _ rfl
 have yR0 := ZR.frozen 0
 have zR1 := ZR.cell 1 _ rfl
 have yR1 := ZR.frozen 1
 have zR2 := ZR.cell 2 _ rfl
 have yR2 := ZR.frozen 2
 have zR3 := ZR.cell 3 _ rfl
 have yR3 := ZR.frozen 3
 clear ZR
 have LR := hid QQ.out.size
 have q20 := newA w19 (.cells #[.int .u64 y4, .int .u64 0, .int .u64 0, .int .u64 0] 24)
 have HRt := Has.new w19 24 #[.int .u64 y4, .int .u64 0, .int .u64 0, .int .u64 0]
 try simp only [World.size_alloc] at HRt
 have HR := hid HRt
 clear HRt
 replace HTB := hid (HTB.out.later q20)
 replace HA := hid (HA.out.later q20)
 replace HB := hid (HB.out.later q20)
 replace HU := hid (HU.out.later q20)
 replace HK := hid (HK.out.later q20)
 replace QQ := hid (QQ.out.trans (q20.mono QQ.out.size))
 clear q20
 have kR0 := HR.out.cell 0 _ rfl
 have kR1 := HR.out.cell 1 _ rfl
 have kR2 := HR.out.cell 2 _ rfl
 have kR3 := HR.out.cell 3 _ rfl
 have hy := Y4.out
 go_wp2_with fail
 clear hy
 clear zR0 yR0 zR1 yR1 zR2 yR2 zR3 yR3 kR0 kR1 kR2 kR3
 obtain ⟨V4, hV4⟩ : ∃ V, (w19.alloc (.cells #[.int .u64 y4, .int .u64 0, .int .u64 0, .int .u64 0] 24)) = V := ⟨_, rfl⟩
 rw [hV4] at HTB HA HB HU HK HR QQ ⊢
 clear hV4
 have hu : ∀ x : Ext V4, x.w.cell? ⟨w3.heap.size, 1, none⟩ = some (.int .u64 (y3)) := fun x => (HU.out.later x.below).cell 1 _ rfl
 have hr : ∀ x : Ext V4, x.w.cell? ⟨w19.heap.size, 0, none⟩ = some (.int .u64 y4) := fun x => (HR.out.later x.below).cell 0 _ rfl
 have he := E4.out
 refine wp_region_mix (C := Grows V4) [some true, some true, some true, some true, some true, some true, some true, some true, some true, none, none] hmx (by kernel_rfl) (by kernel_rfl) (grows_refl V4) ?_
 simp only [headOf, tailOf]
 repeat (go_big_quiet_step (fail))
 refine wpQuiet_nil ?_
 rintro _ ⟨x4, rfl⟩
 clear hu hr he
 have qx := x4.below
 replace HTB := hid (HTB.out.later qx)
 replace HA := hid (HA.out.later qx)
 replace HB := hid (HB.out.later qx)
 replace HU := hid (HU.out.later qx)
 replace HK := hid (HK.out.later qx)
 replace HR := hid (HR.out.later qx)
 replace QQ := hid (QQ.out.trans (qx.mono QQ.out.size))
 clear qx HR
 have c0 := HU.out.cell 1 _ rfl
 have z0 := HU.out.frozen 1
 have PA := hid (HA.out.other (p := ⟨w3.heap.size, 1, none⟩) (Nat.ne_of_lt NA.out) (.int .u64 x5))
 have PB := hid (HB.out.other (p := ⟨w3.heap.size, 1, none⟩) (Nat.ne_of_lt NB.out) (.int .u64 x5))
 have PK := hid (HK.out.other (p := ⟨w3.heap.size, 1, none⟩) (Nat.ne_of_gt NK.out) (.int .u64 x5))
 have PU := hid (HU.out.set 1 (.int .u64 x5))
 have PT := hid (HTB.out.other (p := ⟨w3.heap.size, 1, none⟩) LU.out (.int .u64 x5))
 have PQ := hid (QQ.out.setCell (p := ⟨w3.heap.size, 1, none⟩) QU.out (.int .u64 x5))
 clear HA HB HK HU HTB QQ
 go_wp2_with fail
 rw [calmPost_normal]
 go_wp2_with fail
 obtain ⟨Y4, hY4⟩ : ∃ V, (x4.w.setCell ⟨w3.heap.size, 1, none⟩ (.int .u64 x5)) = V := ⟨_, rfl⟩
 rw [hY4] at PA PB PK PU PT PQ ⊢
 clear hY4 c0 z0
 have HA := PA
 clear PA
 have HB := PB
 clear PB
 have HK := PK
 clear PK
 have HU := PU
 clear PU
 have HTB := PT
 clear PT
 have QQ := PQ
 clear PQ
 rw [rounds_succ]
 have kK0 := HK.out.cell 0 _ rfl
 have kK1 := HK.out.cell 1 _ rfl
 have kK2 := HK.out.cell 2 _ rfl
 have kK3 := HK.out.cell 3 _ rfl
 have kK4 := HK.out.cell 4 _ rfl
 have kK5 := HK.out.cell 5 _ rfl
 have kA0 := HA.out.cell 0 _ rfl
 have kA1 := HA.out.cell 1 _ rfl
 have kA2 := HA.out.cell 2 _ rfl
 have kA3 := HA.out.cell 3 _ rfl
 have kB0 := HB.out.cell 0 _ rfl
 have kB1 := HB.out.cell 1 _ rfl
 have kB2 := HB.out.cell 2 _ rfl
 have kB3 := HB.out.cell 3 _ rfl
 have q21 := newA Y4 (.cells #[.int .u64 (lim b 0), .int .u64 (lim b 1), .int .u64 (lim b 2), .int .u64 (lim b 3), .int .u64 (lim a 0), .int .u64 (lim a 1), .int .u64 (lim a 2), .int .u64 (lim a 3)] 24)
 have S6t := made_ofC Y4 [b, a] [.int .u64 (lim b 0), .int .u64 (lim b 1), .int .u64 (lim b 2), .int .u64 (lim b 3), .int .u64 (lim a 0), .int .u64 (lim a 1), .int .u64 (lim a 2), .int .u64 (lim a 3)] rfl (by simp only [List.mem_cons, List.not_mem_nil, or_false, forall_eq_or_imp, forall_eq]; exact ⟨Vb.out, Va.out⟩) (by simp)
 try simp only [World.size_alloc] at S6t
 have S6 := hid S6t
 clear S6t
 replace HTB := hid (HTB.out.later q21)
 replace HA := hid (HA.out.later q21)
 replace HB := hid (HB.out.later q21)
 replace HU := hid (HU.out.later q21)
 replace HK := hid (HK.out.later q21)
 replace QQ := hid (QQ.out.trans (q21.mono QQ.out.size))
 clear q21
 go_wp2_with fail
 refine (top_is _ HTB.out _ _ _ _ (by decide) S6.out (by simp) G5.out _ R5.out).mono ?_
 rintro _ w22 ⟨rfl, _, q⟩
 replace HTB := hid (HTB.out.later q)
 replace HA := hid (HA.out.later q)
 replace HB := hid (HB.out.later q)
 replace HU := hid (HU.out.later q)
 replace HK := hid (HK.out.later q)
 replace S6 := hid (S6.out.later q)
 replace QQ := hid (QQ.out.trans (q.mono QQ.out.size))
 clear q
 clear kK0 kK1 kK2 kK3 kK4 kK5 kA0 kA1 kA2 kA3 kB0 kB1 kB2 kB3
 clear S6
 have ZR := Has.new w22 24 #[.int .u64 0, .int .u64 0, .int .u64 0, .int .u64 0]
 try simp only [World.size_alloc] at ZR
 have zR0 := ZR.cell 0 _ rfl
 have yR0 := ZR.frozen 0
 have zR1 := ZR.cell 1 _ rfl
 have yR1 := ZR.frozen 1
 have zR2 := ZR.cell 2 _ rfl
 have yR2 := ZR.frozen 2
 have zR3 := ZR.cell 3 _ rfl
 have yR3 := ZR.frozen 3
 clear ZR
 have LR := hid QQ.out.size
 have q23 := newA w22 (.cells #[.int .u64 y5, .int .u64 0, .int .u64 0, .int .u64 0] 24)
 have HRt := Has.new w22 24 #[.int .u64 y5, .int .u64 0, .int .u64 0, .int .u64 0]
 try simp only [World.size_alloc] at HRt
 have HR := hid HRt
 clear HRt
 replace HTB := hid (HTB.out.later q23)
 replace HA := hid (HA.out.later q23)
 replace HB := hid (HB.out.later q23)
 replace HU := hid (HU.out.later q23)
 replace HK := hid (HK.out.later q23)
 replace QQ := hid (QQ.out.trans (q23.mono QQ.out.size))
 clear q23
 have kR0 := HR.out.cell 0 _ rfl
 have kR1 := HR.out.cell 1 _ rfl
 have kR2 := HR.out.cell 2 _ rfl
 have kR3 := HR.out.cell 3 _ rfl
 have hy := Y5.out
 go_wp2_with fail
 clear hy
 clear zR0 yR0 zR1 yR1 zR2 yR2 zR3 yR3 kR0 kR1 kR2 kR3
 obtain ⟨V5, hV5⟩ : ∃ V, (w22.alloc (.cells #[.int .u64 y5, .int .u64 0, .int .u64 0, .int .u64 0] 24)) = V := ⟨_, rfl⟩
 rw [hV5] at HTB HA HB HU HK HR QQ ⊢
 clear hV5
 have hu : ∀ x : Ext V5, x.w.cell? ⟨w3.heap.size, 1, none⟩ = some (.int .u64 (x5)) := fun x => (HU.out.later x.below).cell 1 _ rfl
 have hr : ∀ x : Ext V5, x.w.cell? ⟨w22.heap.size, 0, none⟩ = some (.int .u64 y5) := fun x => (HR.out.later x.below).cell 0 _ rfl
 have he := E5.out
 refine wp_region_mix (C := Grows V5) [some true, some true, some true, some true, some true, some true, some true, some true, some true, none, none] hmx (by kernel_rfl) (by kernel_rfl) (grows_refl V5) ?_
 simp only [headOf, tailOf]
 repeat (go_big_quiet_step (fail))
 refine wpQuiet_nil ?_
 rintro _ ⟨x5, rfl⟩
 clear hu hr he
 have qx := x5.below
 replace HTB := hid (HTB.out.later qx)
 replace HA := hid (HA.out.later qx)
 replace HB := hid (HB.out.later qx)
 replace HU := hid (HU.out.later qx)
 replace HK := hid (HK.out.later qx)
 replace HR := hid (HR.out.later qx)
 replace QQ := hid (QQ.out.trans (qx.mono QQ.out.size))
 clear qx HR
 have c0 := HU.out.cell 1 _ rfl
 have z0 := HU.out.frozen 1
 have PA := hid (HA.out.other (p := ⟨w3.heap.size, 1, none⟩) (Nat.ne_of_lt NA.out) (.int .u64 1))
 have PB := hid (HB.out.other (p := ⟨w3.heap.size, 1, none⟩) (Nat.ne_of_lt NB.out) (.int .u64 1))
 have PK := hid (HK.out.other (p := ⟨w3.heap.size, 1, none⟩) (Nat.ne_of_gt NK.out) (.int .u64 1))
 have PU := hid (HU.out.set 1 (.int .u64 1))
 have PT := hid (HTB.out.other (p := ⟨w3.heap.size, 1, none⟩) LU.out (.int .u64 1))
 have PQ := hid (QQ.out.setCell (p := ⟨w3.heap.size, 1, none⟩) QU.out (.int .u64 1))
 clear HA HB HK HU HTB QQ
 go_wp2_with fail
 rw [calmPost_normal]
 go_wp2_with fail
 obtain ⟨Y5, hY5⟩ : ∃ V, (x5.w.setCell ⟨w3.heap.size, 1, none⟩ (.int .u64 1)) = V := ⟨_, rfl⟩
 rw [hY5] at PA PB PK PU PT PQ ⊢
 clear hY5 c0 z0
 have HA := PA
 clear PA
 have HB := PB
 clear PB
 have HK := PK
 clear PK
 have HU := PU
 clear PU
 have HTB := PT
 clear PT
 have QQ := PQ
 clear PQ
 rw [rounds_succ]
 clear HK
 have kA0 := HA.out.cell 0 _ rfl
 have kA1 := HA.out.cell 1 _ rfl
 have kA2 := HA.out.cell 2 _ rfl
 have kA3 := HA.out.cell 3 _ rfl
 have kB0 := HB.out.cell 0 _ rfl
 have kB1 := HB.out.cell 1 _ rfl
 have kB2 := HB.out.cell 2 _ rfl
 have kB3 := HB.out.cell 3 _ rfl
 have q24 := newA Y5 (.cells #[.int .u64 (lim a 0), .int .u64 (lim a 1), .int .u64 (lim a 2), .int .u64 (lim a 3), .int .u64 (lim b 0), .int .u64 (lim b 1), .int .u64 (lim b 2), .int .u64 (lim b 3)] 24)
 have S7t := made_ofC Y5 [a, b] [.int .u64 (lim a 0), .int .u64 (lim a 1), .int .u64 (lim a 2), .int .u64 (lim a 3), .int .u64 (lim b 0), .int .u64 (lim b 1), .int .u64 (lim b 2), .int .u64 (lim b 3)] rfl (by simp only [List.mem_cons, List.not_mem_nil, or_false, forall_eq_or_imp, forall_eq]; exact ⟨Va.out, Vb.out⟩) (by simp)
 try simp only [World.size_alloc] at S7t
 have S7 := hid S7t
 clear S7t
 replace HTB := hid (HTB.out.later q24)
 replace HA := hid (HA.out.later q24)
 replace HB := hid (HB.out.later q24)
 replace HU := hid (HU.out.later q24)
 replace QQ := hid (QQ.out.trans (q24.mono QQ.out.size))
 clear q24
 go_wp2_with fail
 refine (top_is _ HTB.out _ _ _ _ (by decide) S7.out (by simp) T1.out (.agg #[.int .u64 (lim s 0), .int .u64 (lim s 1), .int .u64 (lim s 2), .int .u64 (lim s 3)]) rfl).mono ?_
 rintro _ w25 ⟨rfl, hv, q⟩
 replace HTB := hid (HTB.out.later q)
 replace HA := hid (HA.out.later q)
 replace HB := hid (HB.out.later q)
 replace HU := hid (HU.out.later q)
 replace S7 := hid (S7.out.later q)
 replace QQ := hid (QQ.out.trans (q.mono QQ.out.size))
 clear q
 have Vs := hid hv
 clear hv
 clear kA0 kA1 kA2 kA3 kB0 kB1 kB2 kB3
 clear S7
 have ZS := Has.new w25 24 #[.int .u64 0, .int .u64 0, .int .u64 0, .int .u64 0]
 try simp only [World.size_alloc] at ZS
 have zS0 := ZS.cell 0 _ rfl
 have yS0 := ZS.frozen 0
 have zS1 := ZS.cell 1 _ rfl
 have yS1 := ZS.frozen 1
 have zS2 := ZS.cell 2 _ rfl
 have yS2 := ZS.frozen 2
 have zS3 := ZS.cell 3 _ rfl
 have yS3 := ZS.frozen 3
 clear ZS
 have LS := hid QQ.out.size
 have q26 := newA w25 (.cells #[.int .u64 (lim s 0), .int .u64 (lim s 1), .int .u64 (lim s 2), .int .u64 (lim s 3)] 24)
 have HSt := Has.new w25 24 #[.int .u64 (lim s 0), .int .u64 (lim s 1), .int .u64 (lim s 2), .int .u64 (lim s 3)]
 try simp only [World.size_alloc] at HSt
 have HS := hid HSt
 clear HSt
 replace HTB := hid (HTB.out.later q26)
 replace HA := hid (HA.out.later q26)
 replace HB := hid (HB.out.later q26)
 replace HU := hid (HU.out.later q26)
 replace QQ := hid (QQ.out.trans (q26.mono QQ.out.size))
 clear q26
 have kB0 := HB.out.cell 0 _ rfl
 have kB1 := HB.out.cell 1 _ rfl
 have kB2 := HB.out.cell 2 _ rfl
 have kB3 := HB.out.cell 3 _ rfl
 have kS0 := HS.out.cell 0 _ rfl
 have kS1 := HS.out.cell 1 _ rfl
 have kS2 := HS.out.cell 2 _ rfl
 have kS3 := HS.out.cell 3 _ rfl
 have q27 := (Below.refl (w25.alloc (.cells #[.int .u64 (lim s 0), .int .u64 (lim s 1), .int .u64 (lim s 2), .int .u64 (lim s 3)] 24)).heap.size (w25.alloc (.cells #[.int .u64 (lim s 0), .int .u64 (lim s 1), .int .u64 (lim s 2), .int .u64 (lim s 3)] 24))).alloc (Nat.le_refl _) (.cells #[.int .u64 (lim b 0), .int .u64 (lim b 1), .int .u64 (lim b 2), .int .u64 (lim b 3), .int .u64 (lim s 0), .int .u64 (lim s 1), .int .u64 (lim s 2), .int .u64 (lim s 3)] 24)
 have S8t := made_ofC (w25.alloc (.cells #[.int .u64 (lim s 0), .int .u64 (lim s 1), .int .u64 (lim s 2), .int .u64 (lim s 3)] 24)) [b, s] [.int .u64 (lim b 0), .int .u64 (lim b 1), .int .u64 (lim b 2), .int .u64 (lim b 3), .int .u64 (lim s 0), .int .u64 (lim s 1), .int .u64 (lim s 2), .int .u64 (lim s 3)] rfl (by simp only [List.mem_cons, List.not_mem_nil, or_false, forall_eq_or_imp, forall_eq]; exact ⟨Vb.out, Vs.out⟩) (by simp)
 try simp only [World.size_alloc] at S8t
 have S8 := hid S8t
 clear S8t
 replace HTB := hid (HTB.out.later q27)
 replace HA := hid (HA.out.later q27)
 replace HB := hid (HB.out.later q27)
 replace HU := hid (HU.out.later q27)
 replace HS := hid (HS.out.later q27)
 replace QQ := hid (QQ.out.trans (q27.mono QQ.out.size))
 clear q27
 go_wp2_with fail
 refine (top_is _ HTB.out _ _ _ _ (by decide) S8.out (by simp) T2.out (.agg #[.int .u64 (lim a 0), .int .u64 (lim a 1), .int .u64 (lim a 2), .int .u64 (lim a 3)]) rfl).mono ?_
 rintro _ w28 ⟨rfl, hv, q⟩
 replace HTB := hid (HTB.out.later q)
 replace HA := hid (HA.out.later q)
 replace HB := hid (HB.out.later q)
 replace HU := hid (HU.out.later q)
 replace HS := hid (HS.out.later q)
 replace S8 := hid (S8.out.later q)
 replace QQ := hid (QQ.out.trans (q.mono QQ.out.size))
 clear q
 clear hv
 clear zS0 yS0 zS1 yS1 zS2 yS2 zS3 yS3 kB0 kB1 kB2 kB3 kS0 kS1 kS2 kS3
 clear S8
 have ZD := Has.new w28 24 #[.int .u64 0, .int .u64 0, .int .u64 0, .int .u64 0]
 try simp only [World.size_alloc] at ZD
 have zD0 := ZD.cell 0 _ rfl
 have yD0 := ZD.frozen 0
 have zD1 := ZD.cell 1 _ rfl
 have yD1 := ZD.frozen 1
 have zD2 := ZD.cell 2 _ rfl
 have yD2 := ZD.frozen 2
 have zD3 := ZD.cell 3 _ rfl
 have yD3 := ZD.frozen 3
 clear ZD
 have LD := hid QQ.out.size
 have q29 := newA w28 (.cells #[.int .u64 (lim a 0), .int .u64 (lim a 1), .int .u64 (lim a 2), .int .u64 (lim a 3)] 24)
 have HDt := Has.new w28 24 #[.int .u64 (lim a 0), .int .u64 (lim a 1), .int .u64 (lim a 2), .int .u64 (lim a 3)]
 try simp only [World.size_alloc] at HDt
 have HD := hid HDt
 clear HDt
 replace HTB := hid (HTB.out.later q29)
 replace HA := hid (HA.out.later q29)
 replace HB := hid (HB.out.later q29)
 replace HU := hid (HU.out.later q29)
 replace HS := hid (HS.out.later q29)
 replace QQ := hid (QQ.out.trans (q29.mono QQ.out.size))
 clear q29
 have kA0 := HA.out.cell 0 _ rfl
 have kA1 := HA.out.cell 1 _ rfl
 have kA2 := HA.out.cell 2 _ rfl
 have kA3 := HA.out.cell 3 _ rfl
 have q30 := (Below.refl (w28.alloc (.cells #[.int .u64 (lim a 0), .int .u64 (lim a 1), .int .u64 (lim a 2), .int .u64 (lim a 3)] 24)).heap.size (w28.alloc (.cells #[.int .u64 (lim a 0), .int .u64 (lim a 1), .int .u64 (lim a 2), .int .u64 (lim a 3)] 24))).alloc (Nat.le_refl _) (.cells #[.int .u64 (lim a 0), .int .u64 (lim a 1), .int .u64 (lim a 2), .int .u64 (lim a 3)] 24)
 have S9t := made_ofC (w28.alloc (.cells #[.int .u64 (lim a 0), .int .u64 (lim a 1), .int .u64 (lim a 2), .int .u64 (lim a 3)] 24)) [a] [.int .u64 (lim a 0), .int .u64 (lim a 1), .int .u64 (lim a 2), .int .u64 (lim a 3)] rfl (by simp only [List.mem_cons, List.not_mem_nil, or_false, forall_eq]; exact Va.out) (by simp)
 try simp only [World.size_alloc] at S9t
 have S9 := hid S9t
 clear S9t
 replace HTB := hid (HTB.out.later q30)
 replace HA := hid (HA.out.later q30)
 replace HB := hid (HB.out.later q30)
 replace HU := hid (HU.out.later q30)
 replace HS := hid (HS.out.later q30)
 replace HD := hid (HD.out.later q30)
 replace QQ := hid (QQ.out.trans (q30.mono QQ.out.size))
 clear q30
 go_wp2_with fail
 refine (top_is _ HTB.out _ _ _ _ (by decide) S9.out (by simp) T3.out (.agg #[.int .u64 (lim n 0), .int .u64 (lim n 1), .int .u64 (lim n 2), .int .u64 (lim n 3)]) rfl).mono ?_
 rintro _ w31 ⟨rfl, hv, q⟩
 replace HTB := hid (HTB.out.later q)
 replace HA := hid (HA.out.later q)
 replace HB := hid (HB.out.later q)
 replace HU := hid (HU.out.later q)
 replace HS := hid (HS.out.later q)
 replace HD := hid (HD.out.later q)
 replace S9 := hid (S9.out.later q)
 replace QQ := hid (QQ.out.trans (q.mono QQ.out.size))
 clear q
 have Vn := hid hv
 clear hv
 clear zD0 yD0 zD1 yD1 zD2 yD2 zD3 yD3 kA0 kA1 kA2 kA3
 clear S9
 have ZN := Has.new w31 24 #[.int .u64 0, .int .u64 0, .int .u64 0, .int .u64 0]
 try simp only [World.size_alloc] at ZN
 have zN0 := ZN.cell 0 _ rfl
 have yN0 := ZN.frozen 0
 have zN1 := ZN.cell 1 _ rfl
 have yN1 := ZN.frozen 1
 have zN2 := ZN.cell 2 _ rfl
 have yN2 := ZN.frozen 2
 have zN3 := ZN.cell 3 _ rfl
 have yN3 := ZN.frozen 3
 clear ZN
 have LN := hid QQ.out.size
 have q32 := newA w31 (.cells #[.int .u64 (lim n 0), .int .u64 (lim n 1), .int .u64 (lim n 2), .int .u64 (lim n 3)] 24)
 have HNt := Has.new w31 24 #[.int .u64 (lim n 0), .int .u64 (lim n 1), .int .u64 (lim n 2), .int .u64 (lim n 3)]
 try simp only [World.size_alloc] at HNt
 have HN := hid HNt
 clear HNt
 replace HTB := hid (HTB.out.later q32)
 replace HA := hid (HA.out.later q32)
 replace HB := hid (HB.out.later q32)
 replace HU := hid (HU.out.later q32)
 replace HS := hid (HS.out.later q32)
 replace HD := hid (HD.out.later q32)
 replace QQ := hid (QQ.out.trans (q32.mono QQ.out.size))
 clear q32
 have kN0 := HN.out.cell 0 _ rfl
 have kN1 := HN.out.cell 1 _ rfl
 have kN2 := HN.out.cell 2 _ rfl
 have kN3 := HN.out.cell 3 _ rfl
 have q33 := (Below.refl (w31.alloc (.cells #[.int .u64 (lim n 0), .int .u64 (lim n 1), .int .u64 (lim n 2), .int .u64 (lim n 3)] 24)).heap.size (w31.alloc (.cells #[.int .u64 (lim n 0), .int .u64 (lim n 1), .int .u64 (lim n 2), .int .u64 (lim n 3)] 24))).alloc (Nat.le_refl _) (.cells #[.int .u64 (lim n 0), .int .u64 (lim n 1), .int .u64 (lim n 2), .int .u64 (lim n 3)] 24)
 have S10t := made_ofC (w31.alloc (.cells #[.int .u64 (lim n 0), .int .u64 (lim n 1), .int .u64 (lim n 2), .int .u64 (lim n 3)] 24)) [n] [.int .u64 (lim n 0), .int .u64 (lim n 1), .int .u64 (lim n 2), .int .u64 (lim n 3)] rfl (by simp only [List.mem_cons, List.not_mem_nil, or_false, forall_eq]; exact Vn.out) (by simp)
 try simp only [World.size_alloc] at S10t
 have S10 := hid S10t
 clear S10t
 replace HTB := hid (HTB.out.later q33)
 replace HA := hid (HA.out.later q33)
 replace HB := hid (HB.out.later q33)
 replace HU := hid (HU.out.later q33)
 replace HS := hid (HS.out.later q33)
 replace HD := hid (HD.out.later q33)
 replace HN := hid (HN.out.later q33)
 replace QQ := hid (QQ.out.trans (q33.mono QQ.out.size))
 clear q33
 go_wp2_with fail
 refine (top_is _ HTB.out _ _ _ _ (by decide) S10.out (by simp) T4.out (.agg #[.int .u64 (lim a 0), .int .u64 (lim a 1), .int .u64 (lim a 2), .int .u64 (lim a 3)]) rfl).mono ?_
 rintro _ w34 ⟨rfl, hv, q⟩
 replace HTB := hid (HTB.out.later q)
 replace HA := hid (HA.out.later q)
 replace HB := hid (HB.out.later q)
 replace HU := hid (HU.out.later q)
 replace HS := hid (HS.out.later q)
 replace HD := hid (HD.out.later q)
 replace HN := hid (HN.out.later q)
 replace S10 := hid (S10.out.later q)
 replace QQ := hid (QQ.out.trans (q.mono QQ.out.size))
 clear q
 clear hv
 clear zN0 yN0 zN1 yN1 zN2 yN2 zN3 yN3 kN0 kN1 kN2 kN3
 clear S10
 have ZM := Has.new w34 24 #[.int .u64 0, .int .u64 0, .int .u64 0, .int .u64 0]
 try simp only [World.size_alloc] at ZM
 have zM0 := ZM.cell 0 _ rfl
 have yM0 := ZM.frozen 0
 have zM1 := ZM.cell 1 _ rfl
 have yM1 := ZM.frozen 1
 have zM2 := ZM.cell 2 _ rfl
 have yM2 := ZM.frozen 2
 have zM3 := ZM.cell 3 _ rfl
 have yM3 := ZM.frozen 3
 clear ZM
 have LM := hid QQ.out.size
 have q35 := newA w34 (.cells #[.int .u64 (lim a 0), .int .u64 (lim a 1), .int .u64 (lim a 2), .int .u64 (lim a 3)] 24)
 have HMt := Has.new w34 24 #[.int .u64 (lim a 0), .int .u64 (lim a 1), .int .u64 (lim a 2), .int .u64 (lim a 3)]
 try simp only [World.size_alloc] at HMt
 have HM := hid HMt
 clear HMt
 replace HTB := hid (HTB.out.later q35)
 replace HA := hid (HA.out.later q35)
 replace HB := hid (HB.out.later q35)
 replace HU := hid (HU.out.later q35)
 replace HS := hid (HS.out.later q35)
 replace HD := hid (HD.out.later q35)
 replace HN := hid (HN.out.later q35)
 replace QQ := hid (QQ.out.trans (q35.mono QQ.out.size))
 clear q35
 have kA0 := HA.out.cell 0 _ rfl
 have kA1 := HA.out.cell 1 _ rfl
 have kA2 := HA.out.cell 2 _ rfl
 have kA3 := HA.out.cell 3 _ rfl
 have q36 := (Below.refl (w34.alloc (.cells #[.int .u64 (lim a 0), .int .u64 (lim a 1), .int .u64 (lim a 2), .int .u64 (lim a 3)] 24)).heap.size (w34.alloc (.cells #[.int .u64 (lim a 0), .int .u64 (lim a 1), .int .u64 (lim a 2), .int .u64 (lim a 3)] 24))).alloc (Nat.le_refl _) (.cells #[.int .u64 (lim a 0), .int .u64 (lim a 1), .int .u64 (lim a 2), .int .u64 (lim a 3)] 24)
 have S11t := made_ofC (w34.alloc (.cells #[.int .u64 (lim a 0), .int .u64 (lim a 1), .int .u64 (lim a 2), .int .u64 (lim a 3)] 24)) [a] [.int .u64 (lim a 0), .int .u64 (lim a 1), .int .u64 (lim a 2), .int .u64 (lim a 3)] rfl (by simp only [List.mem_cons, List.not_mem_nil, or_false, forall_eq]; exact Va.out) (by simp)
 try simp only [World.size_alloc] at S11t
 have S11 := hid S11t
 clear S11t
 replace HTB := hid (HTB.out.later q36)
 replace HA := hid (HA.out.later q36)
 replace HB := hid (HB.out.later q36)
 replace HU := hid (HU.out.later q36)
 replace HS := hid (HS.out.later q36)
 replace HD := hid (HD.out.later q36)
 replace HN := hid (HN.out.later q36)
 replace HM := hid (HM.out.later q36)
 replace QQ := hid (QQ.out.trans (q36.mono QQ.out.size))
 clear q36
 go_wp2_with fail
 refine (top_is _ HTB.out _ _ _ _ (by decide) S11.out (by simp) T5.out (.agg #[.int .u64 (lim z 0), .int .u64 (lim z 1), .int .u64 (lim z 2), .int .u64 (lim z 3)]) rfl).mono ?_
 rintro _ w37 ⟨rfl, hv, q⟩
 replace HTB := hid (HTB.out.later q)
 replace HA := hid (HA.out.later q)
 replace HB := hid (HB.out.later q)
 replace HU := hid (HU.out.later q)
 replace HS := hid (HS.out.later q)
 replace HD := hid (HD.out.later q)
 replace HN := hid (HN.out.later q)
 replace HM := hid (HM.out.later q)
 replace S11 := hid (S11.out.later q)
 replace QQ := hid (QQ.out.trans (q.mono QQ.out.size))
 clear q
 have Vz := hid hv
 clear hv
 clear zM0 yM0 zM1 yM1 zM2 yM2 zM3 yM3 kA0 kA1 kA2 kA3
 clear S11
 have ZZ := Has.new w37 24 #[.int .u64 0, .int .u64 0, .int .u64 0, .int .u64 0]
 try simp only [World.size_alloc] at ZZ
 have zZ0 := ZZ.cell 0 _ rfl
 have yZ0 := ZZ.frozen 0
 have zZ1 := ZZ.cell 1 _ rfl
 have yZ1 := ZZ.frozen 1
 have zZ2 := ZZ.cell 2 _ rfl
 have yZ2 := ZZ.frozen 2
 have zZ3 := ZZ.cell 3 _ rfl
 have yZ3 := ZZ.frozen 3
 clear ZZ
 have LZ := hid QQ.out.size
 have q38 := newA w37 (.cells #[.int .u64 (lim z 0), .int .u64 (lim z 1), .int .u64 (lim z 2), .int .u64 (lim z 3)] 24)
 have HZt := Has.new w37 24 #[.int .u64 (lim z 0), .int .u64 (lim z 1), .int .u64 (lim z 2), .int .u64 (lim z 3)]
 try simp only [World.size_alloc] at HZt
 have HZ := hid HZt
 clear HZt
 replace HTB := hid (HTB.out.later q38)
 replace HA := hid (HA.out.later q38)
 replace HB := hid (HB.out.later q38)
 replace HU := hid (HU.out.later q38)
 replace HS := hid (HS.out.later q38)
 replace HD := hid (HD.out.later q38)
 replace HN := hid (HN.out.later q38)
 replace HM := hid (HM.out.later q38)
 replace QQ := hid (QQ.out.trans (q38.mono QQ.out.size))
 clear q38
 have kZ0 := HZ.out.cell 0 _ rfl
 have kZ1 := HZ.out.cell 1 _ rfl
 have kZ2 := HZ.out.cell 2 _ rfl
 have kZ3 := HZ.out.cell 3 _ rfl
 have q39 := (Below.refl (w37.alloc (.cells #[.int .u64 (lim z 0), .int .u64 (lim z 1), .int .u64 (lim z 2), .int .u64 (lim z 3)] 24)).heap.size (w37.alloc (.cells #[.int .u64 (lim z 0), .int .u64 (lim z 1), .int .u64 (lim z 2), .int .u64 (lim z 3)] 24))).alloc (Nat.le_refl _) (.cells #[.int .u64 (lim z 0), .int .u64 (lim z 1), .int .u64 (lim z 2), .int .u64 (lim z 3)] 24)
 have S12t := made_ofC (w37.alloc (.cells #[.int .u64 (lim z 0), .int .u64 (lim z 1), .int .u64 (lim z 2), .int .u64 (lim z 3)] 24)) [z] [.int .u64 (lim z 0), .int .u64 (lim z 1), .int .u64 (lim z 2), .int .u64 (lim z 3)] rfl (by simp only [List.mem_cons, List.not_mem_nil, or_false, forall_eq]; exact Vz.out) (by simp)
 try simp only [World.size_alloc] at S12t
 have S12 := hid S12t
 clear S12t
 replace HTB := hid (HTB.out.later q39)
 replace HA := hid (HA.out.later q39)
 replace HB := hid (HB.out.later q39)
 replace HU := hid (HU.out.later q39)
 replace HS := hid (HS.out.later q39)
 replace HD := hid (HD.out.later q39)
 replace HN := hid (HN.out.later q39)
 replace HM := hid (HM.out.later q39)
 replace HZ := hid (HZ.out.later q39)
 replace QQ := hid (QQ.out.trans (q39.mono QQ.out.size))
 clear q39
 go_wp2_with fail
 refine (top_is _ HTB.out _ _ _ _ (by decide) S12.out (by simp) T6.out (.agg #[.int .u64 0, .int .u64 0, .int .u64 0, .int .u64 0]) zero_cells).mono ?_
 rintro _ w40 ⟨rfl, _, q⟩
 replace HTB := hid (HTB.out.later q)
 replace HA := hid (HA.out.later q)
 replace HB := hid (HB.out.later q)
 replace HU := hid (HU.out.later q)
 replace HS := hid (HS.out.later q)
 replace HD := hid (HD.out.later q)
 replace HN := hid (HN.out.later q)
 replace HM := hid (HM.out.later q)
 replace HZ := hid (HZ.out.later q)
 replace S12 := hid (S12.out.later q)
 replace QQ := hid (QQ.out.trans (q.mono QQ.out.size))
 clear q
 clear zZ0 yZ0 zZ1 yZ1 zZ2 yZ2 zZ3 yZ3 kZ0 kZ1 kZ2 kZ3
 clear S12
 have LY := hid QQ.out.size
 have q41 := newA w40 (.cells #[.int .u64 0, .int .u64 0, .int .u64 0, .int .u64 0] 24)
 have HYt := Has.new w40 24 #[.int .u64 0, .int .u64 0, .int .u64 0, .int .u64 0]
 try simp only [World.size_alloc] at HYt
 have HY := hid HYt
 clear HYt
 replace HTB := hid (HTB.out.later q41)
 replace HA := hid (HA.out.later q41)
 replace HB := hid (HB.out.later q41)
 replace HU := hid (HU.out.later q41)
 replace HS := hid (HS.out.later q41)
 replace HD := hid (HD.out.later q41)
 replace HN := hid (HN.out.later q41)
 replace HM := hid (HM.out.later q41)
 replace HZ := hid (HZ.out.later q41)
 replace QQ := hid (QQ.out.trans (q41.mono QQ.out.size))
 clear q41
 have kA0 := HA.out.cell 0 _ rfl
 have kA1 := HA.out.cell 1 _ rfl
 have kA2 := HA.out.cell 2 _ rfl
 have kA3 := HA.out.cell 3 _ rfl
 have q42 := (Below.refl (w40.alloc (.cells #[.int .u64 0, .int .u64 0, .int .u64 0, .int .u64 0] 24)).heap.size (w40.alloc (.cells #[.int .u64 0, .int .u64 0, .int .u64 0, .int .u64 0] 24))).alloc (Nat.le_refl _) (.cells #[.int .u64 (lim a 0), .int .u64 (lim a 1), .int .u64 (lim a 2), .int .u64 (lim a 3), .int .u64 0, .int .u64 0, .int .u64 0, .int .u64 0] 24)
 have S13t := made_ofC (w40.alloc (.cells #[.int .u64 0, .int .u64 0, .int .u64 0, .int .u64 0] 24)) [a, 0] [.int .u64 (lim a 0), .int .u64 (lim a 1), .int .u64 (lim a 2), .int .u64 (lim a 3), .int .u64 0, .int .u64 0, .int .u64 0, .int .u64 0] rfl (by simp only [List.mem_cons, List.not_mem_nil, or_false, forall_eq_or_imp, forall_eq]; exact ⟨Va.out, (by unfold W256; omega)⟩) (by simp)
 try simp only [World.size_alloc] at S13t
 have S13 := hid S13t
 clear S13t
 replace HTB := hid (HTB.out.later q42)
 replace HA := hid (HA.out.later q42)
 replace HB := hid (HB.out.later q42)
 replace HU := hid (HU.out.later q42)
 replace HS := hid (HS.out.later q42)
 replace HD := hid (HD.out.later q42)
 replace HN := hid (HN.out.later q42)
 replace HM := hid (HM.out.later q42)
 replace HZ := hid (HZ.out.later q42)
 replace HY := hid (HY.out.later q42)
 replace QQ := hid (QQ.out.trans (q42.mono QQ.out.size))
 clear q42
 go_wp2_with fail
 refine (top_is _ HTB.out _ _ _ _ (by decide) S13.out (by simp) T7.out (.agg #[.int .u64 (lim a 0), .int .u64 (lim a 1), .int .u64 (lim a 2), .int .u64 (lim a 3)]) rfl).mono ?_
 rintro _ w43 ⟨rfl, hv, q⟩
 replace HTB := hid (HTB.out.later q)
 replace HA := hid (HA.out.later q)
 replace HB := hid (HB.out.later q)
 replace HU := hid (HU.out.later q)
 replace HS := hid (HS.out.later q)
 replace HD := hid (HD.out.later q)
 replace HN := hid (HN.out.later q)
 replace HM := hid (HM.out.later q)
 replace HZ := hid (HZ.out.later q)
 replace HY := hid (HY.out.later q)
 replace S13 := hid (S13.out.later q)
 replace QQ := hid (QQ.out.trans (q.mono QQ.out.size))
 clear q
 clear hv
 clear kA0 kA1 kA2 kA3
 clear S13
 have ZH := Has.new w43 24 #[.int .u64 0, .int .u64 0, .int .u64 0, .int .u64 0]
 try simp only [World.size_alloc] at ZH
 have zH0 := ZH.cell 0 _ rfl
 have yH0 := ZH.frozen 0
 have zH1 := ZH.cell 1 _ rfl
 have yH1 := ZH.frozen 1
 have zH2 := ZH.cell 2 _ rfl
 have yH2 := ZH.frozen 2
 have zH3 := ZH.cell 3 _ rfl
 have yH3 := ZH.frozen 3
 clear ZH
 have LH := hid QQ.out.size
 have q44 := newA w43 (.cells #[.int .u64 (lim a 0), .int .u64 (lim a 1), .int .u64 (lim a 2), .int .u64 (lim a 3)] 24)
 have HHt := Has.new w43 24 #[.int .u64 (lim a 0), .int .u64 (lim a 1), .int .u64 (lim a 2), .int .u64 (lim a 3)]
 try simp only [World.size_alloc] at HHt
 have HH := hid HHt
 clear HHt
 replace HTB := hid (HTB.out.later q44)
 replace HA := hid (HA.out.later q44)
 replace HB := hid (HB.out.later q44)
 replace HU := hid (HU.out.later q44)
 replace HS := hid (HS.out.later q44)
 replace HD := hid (HD.out.later q44)
 replace HN := hid (HN.out.later q44)
 replace HM := hid (HM.out.later q44)
 replace HZ := hid (HZ.out.later q44)
 replace HY := hid (HY.out.later q44)
 replace QQ := hid (QQ.out.trans (q44.mono QQ.out.size))
 clear q44
 go_wp2_with fail
 clear zH0 yH0 zH1 yH1 zH2 yH2 zH3 yH3
 obtain ⟨V, hV⟩ : ∃ V, (w43.alloc (.cells #[.int .u64 (lim a 0), .int .u64 (lim a 1), .int .u64 (lim a 2), .int .u64 (lim a 3)] 24)) = V := ⟨_, rfl⟩
 rw [hV] at HTB HA HB HU HS HD HN HM HZ HY HH QQ ⊢
 clear hV
 have kU0 := fun x : Ext V => (HU.out.later x.below).cell 0 _ rfl
 have kU1 := fun x : Ext V => (HU.out.later x.below).cell 1 _ rfl
 have kA0 := fun x : Ext V => (HA.out.later x.below).cell 0 _ rfl
 have kA1 := fun x : Ext V => (HA.out.later x.below).cell 1 _ rfl
 have kA2 := fun x : Ext V => (HA.out.later x.below).cell 2 _ rfl
 have kA3 := fun x : Ext V => (HA.out.later x.below).cell 3 _ rfl
 have kD0 := fun x : Ext V => (HD.out.later x.below).cell 0 _ rfl
 have kD1 := fun x : Ext V => (HD.out.later x.below).cell 1 _ rfl
 have kD2 := fun x : Ext V => (HD.out.later x.below).cell 2 _ rfl
 have kD3 := fun x : Ext V => (HD.out.later x.below).cell 3 _ rfl
 have kM0 := fun x : Ext V => (HM.out.later x.below).cell 0 _ rfl
 have kM1 := fun x : Ext V => (HM.out.later x.below).cell 1 _ rfl
 have kM2 := fun x : Ext V => (HM.out.later x.below).cell 2 _ rfl
 have kM3 := fun x : Ext V => (HM.out.later x.below).cell 3 _ rfl
 have kY0 := fun x : Ext V => (HY.out.later x.below).cell 0 _ rfl
 have kY1 := fun x : Ext V => (HY.out.later x.below).cell 1 _ rfl
 have kY2 := fun x : Ext V => (HY.out.later x.below).cell 2 _ rfl
 have kY3 := fun x : Ext V => (HY.out.later x.below).cell 3 _ rfl
 have kH0 := fun x : Ext V => (HH.out.later x.below).cell 0 _ rfl
 have kH1 := fun x : Ext V => (HH.out.later x.below).cell 1 _ rfl
 have kH2 := fun x : Ext V => (HH.out.later x.below).cell 2 _ rfl
 have kH3 := fun x : Ext V => (HH.out.later x.below).cell 3 _ rfl
 try simp only [List.append]
 refine wp_region_quick (C := Grows V) (by kernel_rfl) (by kernel_rfl) (by kernel_rfl) (grows_refl V) ?_
 repeat (go_big_quiet_step (fail))
 rw [HAZ.out]
 repeat (go_big_quiet_step (fail))
 refine wpQuiet_nil ?_
 rintro _ ⟨x, rfl⟩
 go_wp2
 go_ret
 exact ⟨rfl, QQ.out.trans (x.below.mono QQ.out.size)⟩
theorem ways_n (W : World) (hT : Tab W) (a b s n z : Nat) (ha : W256 a) (hb : W256 b) (r : Nat → Nat) (y : Nat → Int) (x2 x5 : Int) (hr : ∀ i, i < 6 → wv (r i) = .agg #[.int .u64 (y i), .int .u64 0, .int .u64 0, .int .u64 0])
  (g0 : TopIs 16 [b, a] (r 0)) (g1 : TopIs 17 [b, a] (r 1)) (g2 : TopIs 20 [b, a] (r 2)) (g3 : TopIs 18 [b, a] (r 3)) (g4 : TopIs 19 [b, a] (r 4)) (g5 : TopIs 20 [b, a] (r 5))
  (y0 : ¬ y 0 > 1) (y1 : ¬ y 1 > 1) (y2 : ¬ y 2 > 1) (y3 : ¬ y 3 > 1) (y4 : ¬ y 4 > 1) (y5 : ¬ y 5 > 1)
  (e0 : IntKind.u64.wrap (y 0) = y 0) (e1 : IntKind.u64.wrap (y 0 + y 1) = x2) (e2 : IntKind.u64.wrap (x2 + y 2) = 1) (e3 : IntKind.u64.wrap (y 3) = y 3) (e4 : IntKind.u64.wrap (y 3 + y 4) = x5) (e5 : IntKind.u64.wrap (x5 + y 5) = 1)
  (h1 : TopIs 1 [a, b] s) (h2 : TopIs 3 [b, s] a) (h3 : TopIs 25 [a] n) (h4 : TopIs 25 [n] a) (h5 : TopIs 21 [a] z) (h6 : TopIs 21 [z] 1) (h7 : TopIs 27 [a, 0] a)
  (hz : (lim a 0 == 0 && lim a 1 == 0 && lim a 2 == 0 && lim a 3 == 0) = false) :
  Calls Tryz.prog 5 #[wv a, wv b] W fun e w' => e = .returned (.bool true) ∧ Below W.heap.size W w' := by
 have hmx : Tryz.prog.follows .mixedOrders = true := by kernel_rfl
 have HTB := hid hT
 have Va := hid ha
 have Vb := hid hb
 have HAZ := hid hz
 have R0 := hid (hr 0 (by omega))
 have G0 := hid g0
 have R1 := hid (hr 1 (by omega))
 have G1 := hid g1
 have R2 := hid (hr 2 (by omega))
 have G2 := hid g2
 have R3 := hid (hr 3 (by omega))
 have G3 := hid g3
 have R4 := hid (hr 4 (by omega))
 have G4 := hid g4
 have R5 := hid (hr 5 (by omega))
 have G5 := hid g5
 have T1 := hid h1
 have T2 := hid h2
 have T3 := hid h3
 have T4 := hid h4
 have T5 := hid h5
 have T6 := hid h6
 have T7 := hid h7
 have Y0 := hid y0
 have Y1 := hid y1
 have Y2 := hid y2
 have Y3 := hid y3
 have Y4 := hid y4
 have Y5 := hid y5
 have E0 := hid e0
 have E1 := hid e1
 have E2 := hid e2
 have E3 := hid e3
 have E4 := hid e4
 have E5 := hid e5
 clear hT ha hb h1 h2 h3 h4 h5 h6 h7 hz hr g0 g1 g2 g3 g4 g5 y0 y1 y2 y3 y4 y5 e0 e1 e2 e3 e4 e5
 generalize y 0 = y0 at *
 generalize r 0 = r0 at *
 generalize y 1 = y1 at *
 generalize r 1 = r1 at *
 generalize y 2 = y2 at *
 generalize r 2 = r2 at *
 generalize y 3 = y3 at *
 generalize r 3 = r3 at *
 generalize y 4 = y4 at *
 generalize r 4 = r4 at *
 generalize y 5 = y5 at *
 generalize r 5 = r5 at *
 unfold wv
 go_enter Tryz.func5, Tryz.ntmps5
 have q1 := newA W (.cells #[.int .u64 (lim a 0), .int .u64 (lim a 1), .int .u64 (lim a 2), .int .u64 (lim a 3)] 24)
 have HAt := Has.new W 24 #[.int .u64 (lim a 0), .int .u64 (lim a 1), .int .u64 (lim a 2), .int .u64 (lim a 3)]
 try simp only [World.size_alloc] at HAt
 have HA := hid HAt
 clear HAt
 replace HTB := hid (HTB.out.later q1)
 have QQ := hid q1
 clear q1
 have LB := hid QQ.out.size
 have q2 := (Below.refl (W.alloc (.cells #[.int .u64 (lim a 0), .int .u64 (lim a 1), .int .u64 (lim a 2), .int .u64 (lim a 3)] 24)).heap.size (W.alloc (.cells #[.int .u64 (lim a 0), .int .u64 (lim a 1), .int .u64 (lim a 2), .int .u64 (lim a 3)] 24))).alloc (Nat.le_refl _) (.cells #[.int .u64 (lim b 0), .int .u64 (lim b 1), .int .u64 (lim b 2), .int .u64 (lim b 3)] 24)
 have HBt := Has.new (W.alloc (.cells #[.int .u64 (lim a 0), .int .u64 (lim a 1), .int .u64 (lim a 2), .int .u64 (lim a 3)] 24)) 24 #[.int .u64 (lim b 0), .int .u64 (lim b 1), .int .u64 (lim b 2), .int .u64 (lim b 3)]
 try simp only [World.size_alloc] at HBt
 have HB := hid HBt
 clear HBt
 replace HTB := hid (HTB.out.later q2)
 replace HA := hid (HA.out.later q2)
 replace QQ := hid (QQ.out.trans (q2.mono QQ.out.size))
 clear q2
 go_wp2_with fail
 refine (awake_any _ HTB.out).mono ?_
 rintro _ w3 ⟨rfl, q⟩
 replace HTB := hid (HTB.out.later q)
 replace HA := hid (HA.out.later q)
 replace HB := hid (HB.out.later q)
 replace QQ := hid (QQ.out.trans (q.mono QQ.out.size))
 clear q
 have NA := hid HA.out.lt
 have NB := hid HB.out.lt
 have QU := hid QQ.out.size
 have LU := hid (Nat.lt_of_lt_of_le HTB.out.lt (Nat.le_refl _))
 have q4 := newA w3 (.cells #[.int .u64 0, .int .u64 0] 41)
 have HUt := Has.new w3 41 #[.int .u64 0, .int .u64 0]
 try simp only [World.size_alloc] at HUt
 have HU := hid HUt
 clear HUt
 replace HTB := hid (HTB.out.later q4)
 replace HA := hid (HA.out.later q4)
 replace HB := hid (HB.out.later q4)
 replace QQ := hid (QQ.out.trans (q4.mono QQ.out.size))
 clear q4
 have NK := hid HU.out.lt
 try simp only [World.size_alloc] at NK
 have q5 := (Below.refl (w3.alloc (.cells #[.int .u64 0, .int .u64 0] 41)).heap.size (w3.alloc (.cells #[.int .u64 0, .int .u64 0] 41))).alloc (Nat.le_refl _) (.cells #[.int .u8 16, .int .u8 17, .int .u8 20, .int .u8 18, .int .u8 19, .int .u8 20] 5)
 have HKt := Has.new (w3.alloc (.cells #[.int .u64 0, .int .u64 0] 41)) 5 #[.int .u8 16, .int .u8 17, .int .u8 20, .int .u8 18, .int .u8 19, .int .u8 20]
 try simp only [World.size_alloc] at HKt
 have HK := hid HKt
 clear HKt
 replace HTB := hid (HTB.out.later q5)
 replace HA := hid (HA.out.later q5)
 replace HB := hid (HB.out.later q5)
 replace HU := hid (HU.out.later q5)
 replace QQ := hid (QQ.out.trans (q5.mono QQ.out.size))
 clear q5
 go_wp2_with fail
 refine wp_loop_rounds 7 ?_
 rw [rounds_succ]
 have kK0 := HK.out.cell 0 _ rfl
 have kK1 := HK.out.cell 1 _ rfl
 have kK2 := HK.out.cell 2 _ rfl
 have kK3 := HK.out.cell 3 _ rfl
 have kK4 := HK.out.cell 4 _ rfl
 have kK5 := HK.out.cell 5 _ rfl
 have kA0 := HA.out.cell 0 _ rfl
 have kA1 := HA.out.cell 1 _ rfl
 have kA2 := HA.out.cell 2 _ rfl
 have kA3 := HA.out.cell 3 _ rfl
 have kB0 := HB.out.cell 0 _ rfl
 have kB1 := HB.out.cell 1 _ rfl
 have kB2 := HB.out.cell 2 _ rfl
 have kB3 := HB.out.cell 3 _ rfl
 have q6 := (Below.refl ((w3.alloc (.cells #[.int .u64 0, .int .u64 0] 41)).alloc (.cells #[.int .u8 16, .int .u8 17, .int .u8 20, .int .u8 18, .int .u8 19, .int .u8 20] 5)).heap.size ((w3.alloc (.cells #[.int .u64 0, .int .u64 0] 41)).alloc (.cells #[.int .u8 16, .int .u8 17, .int .u8 20, .int .u8 18, .int .u8 19, .int .u8 20] 5))).alloc (Nat.le_refl _) (.cells #[.int .u64 (lim b 0), .int .u64 (lim b 1), .int .u64 (lim b 2), .int .u64 (lim b 3), .int .u64 (lim a 0), .int .u64 (lim a 1), .int .u64 (lim a 2), .int .u64 (lim a 3)] 24)
 have S1t := made_ofC ((w3.alloc (.cells #[.int .u64 0, .int .u64 0] 41)).alloc (.cells #[.int .u8 16, .int .u8 17, .int .u8 20, .int .u8 18, .int .u8 19, .int .u8 20] 5)) [b, a] [.int .u64 (lim b 0), .int .u64 (lim b 1), .int .u64 (lim b 2), .int .u64 (lim b 3), .int .u64 (lim a 0), .int .u64 (lim a 1), .int .u64 (lim a 2), .int .u64 (lim a 3)] rfl (by simp only [List.mem_cons, List.not_mem_nil, or_false, forall_eq_or_imp, forall_eq]; exact ⟨Vb.out, Va.out⟩) (by simp)
 try simp only [World.size_alloc] at S1t
 have S1 := hid S1t
 clear S1t
 replace HTB := hid (HTB.out.later q6)
 replace HA := hid (HA.out.later q6)
 replace HB := hid (HB.out.later q6)
 replace HU := hid (HU.out.later q6)
 replace HK := hid (HK.out.later q6)
 replace QQ := hid (QQ.out.trans (q6.mono QQ.out.size))
 clear q6
 go_wp2_with fail
 refine (top_is _ HTB.out _ _ _ _ (by decide) S1.out (by simp) G0.out _ R0.out).mono ?_
 rintro _ w7 ⟨rfl, _, q⟩
 replace HTB := hid (HTB.out.later q)
 replace HA := hid (HA.out.later q)
 replace HB := hid (HB.out.later q)
 replace HU := hid (HU.out.later q)
 replace HK := hid (HK.out.later q)
 replace S1 := hid (S1.out.later q)
 replace QQ := hid (QQ.out.trans (q.mono QQ.out.size))
 clear q
 clear kK0 kK1 kK2 kK3 kK4 kK5 kA0 kA1 kA2 kA3 kB0 kB1 kB2 kB3
 clear S1
 have ZR := Has.new w7 24 #[.int .u64 0, .int .u64 0, .int .u64 0, .int .u64 0]
 try simp only [World.size_alloc] at ZR
 have zR0 := ZR.cell 0 _ rfl
 have yR0 := ZR.frozen 0
 have zR1 := ZR.cell 1 _ rfl
 have yR1 := ZR.frozen 1
 have zR2 := ZR.cell 2 _ rfl
 have yR2 := ZR.frozen 2
 have zR3 := ZR.cell 3 _ rfl
 have yR3 := ZR.frozen 3
 clear ZR
 have LR := hid QQ.out.size
 have q8 := newA w7 (.cells #[.int .u64 y0, .int .u64 0, .int .u64 0, .int .u64 0] 24)
 have HRt := Has.new w7 24 #[.int .u64 y0, .int .u64 0, .int .u64 0, .int .u64 0]
 try simp only [World.size_alloc] at HRt
 have HR := hid HRt
 clear HRt
 replace HTB := hid (HTB.out.later q8)
 replace HA := hid (HA.out.later q8)
 replace HB := hid (HB.out.later q8)
 replace HU := hid (HU.out.later q8)
 replace HK := hid (HK.out.later q8)
 replace QQ := hid (QQ.out.trans (q8.mono QQ.out.size))
 clear q8
 have kR0 := HR.out.cell 0 _ rfl
 have kR1 := HR.out.cell 1 _ rfl
 have kR2 := HR.out.cell 2 _ rfl
 have kR3 := HR.out.cell 3 _ rfl
 have hy := Y0.out
 go_wp2_with fail
 clear hy
 clear zR0 yR0 zR1 yR1 zR2 yR2 zR3 yR3 kR0 kR1 kR2 kR3
 obtain ⟨V0, hV0⟩ : ∃ V, (w7.alloc (.cells #[.int .u64 y0, .int .u64 0, .int .u64 0, .int .u64 0] 24)) = V := ⟨_, rfl⟩
 rw [hV0] at HTB HA HB HU HK HR QQ ⊢
 clear hV0
 have hu : ∀ x : Ext V0, x.w.cell? ⟨w3.heap.size, 0, none⟩ = some (.int .u64 0) := fun x => (HU.out.later x.below).cell 0 _ rfl
 have hr : ∀ x : Ext V0, x.w.cell? ⟨w7.heap.size, 0, none⟩ = some (.int .u64 y0) := fun x => (HR.out.later x.below).cell 0 _ rfl
 have he := E0.out
 refine wp_region_mix (C := Grows V0) [some true, some true, some true, some true, some true, some true, some true, some true, some true, none, none] hmx (by kernel_rfl) (by kernel_rfl) (grows_refl V0) ?_
 simp only [headOf, tailOf]
 repeat (go_big_quiet_step (fail))
 refine wpQuiet_nil ?_
 rintro _ ⟨x0, rfl⟩
 clear hu hr he
 have qx := x0.below
 replace HTB := hid (HTB.out.later qx)
 replace HA := hid (HA.out.later qx)
 replace HB := hid (HB.out.later qx)
 replace HU := hid (HU.out.later qx)
 replace HK := hid (HK.out.later qx)
 replace HR := hid (HR.out.later qx)
 replace QQ := hid (QQ.out.trans (qx.mono QQ.out.size))
 clear qx HR
 have c0 := HU.out.cell 0 _ rfl
 have z0 := HU.out.frozen 0
 have PA := hid (HA.out.other (p := ⟨w3.heap.size, 0, none⟩) (Nat.ne_of_lt NA.out) (.int .u64 y0))
 have PB := hid (HB.out.other (p := ⟨w3.heap.size, 0, none⟩) (Nat.ne_of_lt NB.out) (.int .u64 y0))
 have PK := hid (HK.out.other (p := ⟨w3.heap.size, 0, none⟩) (Nat.ne_of_gt NK.out) (.int .u64 y0))
 have PU := hid (HU.out.set 0 (.int .u64 y0))
 have PT := hid (HTB.out.other (p := ⟨w3.heap.size, 0, none⟩) LU.out (.int .u64 y0))
 have PQ := hid (QQ.out.setCell (p := ⟨w3.heap.size, 0, none⟩) QU.out (.int .u64 y0))
 clear HA HB HK HU HTB QQ
 go_wp2_with fail
 rw [calmPost_normal]
 go_wp2_with fail
 obtain ⟨Y0, hY0⟩ : ∃ V, (x0.w.setCell ⟨w3.heap.size, 0, none⟩ (.int .u64 y0)) = V := ⟨_, rfl⟩
 rw [hY0] at PA PB PK PU PT PQ ⊢
 clear hY0 c0 z0
 have HA := PA
 clear PA
 have HB := PB
 clear PB
 have HK := PK
 clear PK
 have HU := PU
 clear PU
 have HTB := PT
 clear PT
 have QQ := PQ
 clear PQ
 rw [rounds_succ]
 have kK0 := HK.out.cell 0 _ rfl
 have kK1 := HK.out.cell 1 _ rfl
 have kK2 := HK.out.cell 2 _ rfl
 have kK3 := HK.out.cell 3 _ rfl
 have kK4 := HK.out.cell 4 _ rfl
 have kK5 := HK.out.cell 5 _ rfl
 have kA0 := HA.out.cell 0 _ rfl
 have kA1 := HA.out.cell 1 _ rfl
 have kA2 := HA.out.cell 2 _ rfl
 have kA3 := HA.out.cell 3 _ rfl
 have kB0 := HB.out.cell 0 _ rfl
 have kB1 := HB.out.cell 1 _ rfl
 have kB2 := HB.out.cell 2 _ rfl
 have kB3 := HB.out.cell 3 _ rfl
 have q9 := newA Y0 (.cells #[.int .u64 (lim b 0), .int .u64 (lim b 1), .int .u64 (lim b 2), .int .u64 (lim b 3), .int .u64 (lim a 0), .int .u64 (lim a 1), .int .u64 (lim a 2), .int .u64 (lim a 3)] 24)
 have S2t := made_ofC Y0 [b, a] [.int .u64 (lim b 0), .int .u64 (lim b 1), .int .u64 (lim b 2), .int .u64 (lim b 3), .int .u64 (lim a 0), .int .u64 (lim a 1), .int .u64 (lim a 2), .int .u64 (lim a 3)] rfl (by simp only [List.mem_cons, List.not_mem_nil, or_false, forall_eq_or_imp, forall_eq]; exact ⟨Vb.out, Va.out⟩) (by simp)
 try simp only [World.size_alloc] at S2t
 have S2 := hid S2t
 clear S2t
 replace HTB := hid (HTB.out.later q9)
 replace HA := hid (HA.out.later q9)
 replace HB := hid (HB.out.later q9)
 replace HU := hid (HU.out.later q9)
 replace HK := hid (HK.out.later q9)
 replace QQ := hid (QQ.out.trans (q9.mono QQ.out.size))
 clear q9
 go_wp2_with fail
 refine (top_is _ HTB.out _ _ _ _ (by decide) S2.out (by simp) G1.out _ R1.out).mono ?_
 rintro _ w10 ⟨rfl, _, q⟩
 replace HTB := hid (HTB.out.later q)
 replace HA := hid (HA.out.later q)
 replace HB := hid (HB.out.later q)
 replace HU := hid (HU.out.later q)
 replace HK := hid (HK.out.later q)
 replace S2 := hid (S2.out.later q)
 replace QQ := hid (QQ.out.trans (q.mono QQ.out.size))
 clear q
 clear kK0 kK1 kK2 kK3 kK4 kK5 kA0 kA1 kA2 kA3 kB0 kB1 kB2 kB3
 clear S2
 have ZR := Has.new w10 24 #[.int .u64 0, .int .u64 0, .int .u64 0, .int .u64 0]
 try simp only [World.size_alloc] at ZR
 have zR0 := ZR.cell 0 _ rfl
 have yR0 := ZR.frozen 0
 have zR1 := ZR.cell 1 _ rfl
 have yR1 := ZR.frozen 1
 have zR2 := ZR.cell 2 _ rfl
 have yR2 := ZR.frozen 2
 have zR3 := ZR.cell 3 _ rfl
 have yR3 := ZR.frozen 3
 clear ZR
 have LR := hid QQ.out.size
 have q11 := newA w10 (.cells #[.int .u64 y1, .int .u64 0, .int .u64 0, .int .u64 0] 24)
 have HRt := Has.new w10 24 #[.int .u64 y1, .int .u64 0, .int .u64 0, .int .u64 0]
 try simp only [World.size_alloc] at HRt
 have HR := hid HRt
 clear HRt
 replace HTB := hid (HTB.out.later q11)
 replace HA := hid (HA.out.later q11)
 replace HB := hid (HB.out.later q11)
 replace HU := hid (HU.out.later q11)
 replace HK := hid (HK.out.later q11)
 replace QQ := hid (QQ.out.trans (q11.mono QQ.out.size))
 clear q11
 have kR0 := HR.out.cell 0 _ rfl
 have kR1 := HR.out.cell 1 _ rfl
 have kR2 := HR.out.cell 2 _ rfl
 have kR3 := HR.out.cell 3 _ rfl
 have hy := Y1.out
 go_wp2_with fail
 clear hy
 clear zR0 yR0 zR1 yR1 zR2 yR2 zR3 yR3 kR0 kR1 kR2 kR3
 obtain ⟨V1, hV1⟩ : ∃ V, (w10.alloc (.cells #[.int .u64 y1, .int .u64 0, .int .u64 0, .int .u64 0] 24)) = V := ⟨_, rfl⟩
 rw [hV1] at HTB HA HB HU HK HR QQ ⊢
 clear hV1
 have hu : ∀ x : Ext V1, x.w.cell? ⟨w3.heap.size, 0, none⟩ = some (.int .u64 (y0)) := fun x => (HU.out.later x.below).cell 0 _ rfl
 have hr : ∀ x : Ext V1, x.w.cell? ⟨w10.heap.size, 0, none⟩ = some (.int .u64 y1) := fun x => (HR.out.later x.below).cell 0 _ rfl
 have he := E1.out
 refine wp_region_mix (C := Grows V1) [some true, some true, some true, some true, some true, some true, some true, some true, some true, none, none] hmx (by kernel_rfl) (by kernel_rfl) (grows_refl V1) ?_
 simp only [headOf, tailOf]
 repeat (go_big_quiet_step (fail))
 refine wpQuiet_nil ?_
 rintro _ ⟨x1, rfl⟩
 clear hu hr he
 have qx := x1.below
 replace HTB := hid (HTB.out.later qx)
 replace HA := hid (HA.out.later qx)
 replace HB := hid (HB.out.later qx)
 replace HU := hid (HU.out.later qx)
 replace HK := hid (HK.out.later qx)
 replace HR := hid (HR.out.later qx)
 replace QQ := hid (QQ.out.trans (qx.mono QQ.out.size))
 clear qx HR
 have c0 := HU.out.cell 0 _ rfl
 have z0 := HU.out.frozen 0
 have PA := hid (HA.out.other (p := ⟨w3.heap.size, 0, none⟩) (Nat.ne_of_lt NA.out) (.int .u64 x2))
 have PB := hid (HB.out.other (p := ⟨w3.heap.size, 0, none⟩) (Nat.ne_of_lt NB.out) (.int .u64 x2))
 have PK := hid (HK.out.other (p := ⟨w3.heap.size, 0, none⟩) (Nat.ne_of_gt NK.out) (.int .u64 x2))
 have PU := hid (HU.out.set 0 (.int .u64 x2))
 have PT := hid (HTB.out.other (p := ⟨w3.heap.size, 0, none⟩) LU.out (.int .u64 x2))
 have PQ := hid (QQ.out.setCell (p := ⟨w3.heap.size, 0, none⟩) QU.out (.int .u64 x2))
 clear HA HB HK HU HTB QQ
 go_wp2_with fail
 rw [calmPost_normal]
 go_wp2_with fail
 obtain ⟨Y1, hY1⟩ : ∃ V, (x1.w.setCell ⟨w3.heap.size, 0, none⟩ (.int .u64 x2)) = V := ⟨_, rfl⟩
 rw [hY1] at PA PB PK PU PT PQ ⊢
 clear hY1 c0 z0
 have HA := PA
 clear PA
 have HB := PB
 clear PB
 have HK := PK
 clear PK
 have HU := PU
 clear PU
 have HTB := PT
 clear PT
 have QQ := PQ
 clear PQ
 rw [rounds_succ]
 have kK0 := HK.out.cell 0 _ rfl
 have kK1 := HK.out.cell 1 _ rfl
 have kK2 := HK.out.cell 2 _ rfl
 have kK3 := HK.out.cell 3 _ rfl
 have kK4 := HK.out.cell 4 _ rfl
 have kK5 := HK.out.cell 5 _ rfl
 have kA0 := HA.out.cell 0 _ rfl
 have kA1 := HA.out.cell 1 _ rfl
 have kA2 := HA.out.cell 2 _ rfl
 have kA3 := HA.out.cell 3 _ rfl
 have kB0 := HB.out.cell 0 _ rfl
 have kB1 := HB.out.cell 1 _ rfl
 have kB2 := HB.out.cell 2 _ rfl
 have kB3 := HB.out.cell 3 _ rfl
 have q12 := newA Y1 (.cells #[.int .u64 (lim b 0), .int .u64 (lim b 1), .int .u64 (lim b 2), .int .u64 (lim b 3), .int .u64 (lim a 0), .int .u64 (lim a 1), .int .u64 (lim a 2), .int .u64 (lim a 3)] 24)
 have S3t := made_ofC Y1 [b, a] [.int .u64 (lim b 0), .int .u64 (lim b 1), .int .u64 (lim b 2), .int .u64 (lim b 3), .int .u64 (lim a 0), .int .u64 (lim a 1), .int .u64 (lim a 2), .int .u64 (lim a 3)] rfl (by simp only [List.mem_cons, List.not_mem_nil, or_false, forall_eq_or_imp, forall_eq]; exact ⟨Vb.out, Va.out⟩) (by simp)
 try simp only [World.size_alloc] at S3t
 have S3 := hid S3t
 clear S3t
 replace HTB := hid (HTB.out.later q12)
 replace HA := hid (HA.out.later q12)
 replace HB := hid (HB.out.later q12)
 replace HU := hid (HU.out.later q12)
 replace HK := hid (HK.out.later q12)
 replace QQ := hid (QQ.out.trans (q12.mono QQ.out.size))
 clear q12
 go_wp2_with fail
 refine (top_is _ HTB.out _ _ _ _ (by decide) S3.out (by simp) G2.out _ R2.out).mono ?_
 rintro _ w13 ⟨rfl, _, q⟩
 replace HTB := hid (HTB.out.later q)
 replace HA := hid (HA.out.later q)
 replace HB := hid (HB.out.later q)
 replace HU := hid (HU.out.later q)
 replace HK := hid (HK.out.later q)
 replace S3 := hid (S3.out.later q)
 replace QQ := hid (QQ.out.trans (q.mono QQ.out.size))
 clear q
 clear kK0 kK1 kK2 kK3 kK4 kK5 kA0 kA1 kA2 kA3 kB0 kB1 kB2 kB3
 clear S3
 have ZR := Has.new w13 24 #[.int .u64 0, .int .u64 0, .int .u64 0, .int .u64 0]
 try simp only [World.size_alloc] at ZR
 have zR0 := ZR.cell 0 _ rfl
 have yR0 := ZR.frozen 0
 have zR1 := ZR.cell 1 _ rfl
 have yR1 := ZR.frozen 1
 have zR2 := ZR.cell 2 _ rfl
 have yR2 := ZR.frozen 2
 have zR3 := ZR.cell 3 _ rfl
 have yR3 := ZR.frozen 3
 clear ZR
 have LR := hid QQ.out.size
 have q14 := newA w13 (.cells #[.int .u64 y2, .int .u64 0, .int .u64 0, .int .u64 0] 24)
 have HRt := Has.new w13 24 #[.int .u64 y2, .int .u64 0, .int .u64 0, .int .u64 0]
 try simp only [World.size_alloc] at HRt
 have HR := hid HRt
 clear HRt
 replace HTB := hid (HTB.out.later q14)
 replace HA := hid (HA.out.later q14)
 replace HB := hid (HB.out.later q14)
 replace HU := hid (HU.out.later q14)
 replace HK := hid (HK.out.later q14)
 replace QQ := hid (QQ.out.trans (q14.mono QQ.out.size))
 clear q14
 have kR0 := HR.out.cell 0 _ rfl
 have kR1 := HR.out.cell 1 _ rfl
 have kR2 := HR.out.cell 2 _ rfl
 have kR3 := HR.out.cell 3 _ rfl
 have hy := Y2.out
 go_wp2_with fail
 clear hy
 clear zR0 yR0 zR1 yR1 zR2 yR2 zR3 yR3 kR0 kR1 kR2 kR3
 obtain ⟨V2, hV2⟩ : ∃ V, (w13.alloc (.cells #[.int .u64 y2, .int .u64 0, .int .u64 0, .int .u64 0] 24)) = V := ⟨_, rfl⟩
 rw [hV2] at HTB HA HB HU HK HR QQ ⊢
 clear hV2
 have hu : ∀ x : Ext V2, x.w.cell? ⟨w3.heap.size, 0, none⟩ = some (.int .u64 (x2)) := fun x => (HU.out.later x.below).cell 0 _ rfl
 have hr : ∀ x : Ext V2, x.w.cell? ⟨w13.heap.size, 0, none⟩ = some (.int .u64 y2) := fun x => (HR.out.later x.below).cell 0 _ rfl
 have he := E2.out
 refine wp_region_mix (C := Grows V2) [some true, some true, some true, some true, some true, some true, some true, some true, some true, none, none] hmx (by kernel_rfl) (by kernel_rfl) (grows_refl V2) ?_
 simp only [headOf, tailOf]
 repeat (go_big_quiet_step (fail))
 refine wpQuiet_nil ?_
 rintro _ ⟨x2, rfl⟩
 clear hu hr he
 have qx := x2.below
 replace HTB := hid (HTB.out.later qx)
 replace HA := hid (HA.out.later qx)
 replace HB := hid (HB.out.later qx)
 replace HU := hid (HU.out.later qx)
 replace HK := hid (HK.out.later qx)
 replace HR := hid (HR.out.later qx)
 replace QQ := hid (QQ.out.trans (qx.mono QQ.out.size))
 clear qx HR
 have c0 := HU.out.cell 0 _ rfl
 have z0 := HU.out.frozen 0
 have PA := hid (HA.out.other (p := ⟨w3.heap.size, 0, none⟩) (Nat.ne_of_lt NA.out) (.int .u64 1))
 have PB := hid (HB.out.other (p := ⟨w3.heap.size, 0, none⟩) (Nat.ne_of_lt NB.out) (.int .u64 1))
 have PK := hid (HK.out.other (p := ⟨w3.heap.size, 0, none⟩) (Nat.ne_of_gt NK.out) (.int .u64 1))
 have PU := hid (HU.out.set 0 (.int .u64 1))
 have PT := hid (HTB.out.other (p := ⟨w3.heap.size, 0, none⟩) LU.out (.int .u64 1))
 have PQ := hid (QQ.out.setCell (p := ⟨w3.heap.size, 0, none⟩) QU.out (.int .u64 1))
 clear HA HB HK HU HTB QQ
 go_wp2_with fail
 rw [calmPost_normal]
 go_wp2_with fail
 obtain ⟨Y2, hY2⟩ : ∃ V, (x2.w.setCell ⟨w3.heap.size, 0, none⟩ (.int .u64 1)) = V := ⟨_, rfl⟩
 rw [hY2] at PA PB PK PU PT PQ ⊢
 clear hY2 c0 z0
 have HA := PA
 clear PA
 have HB := PB
 clear PB
 have HK := PK
 clear PK
 have HU := PU
 clear PU
 have HTB := PT
 clear PT
 have QQ := PQ
 clear PQ
 rw [rounds_succ]
 have kK0 := HK.out.cell 0 _ rfl
 have kK1 := HK.out.cell 1 _ rfl
 have kK2 := HK.out.cell 2 _ rfl
 have kK3 := HK.out.cell 3 _ rfl
 have kK4 := HK.out.cell 4 _ rfl
 have kK5 := HK.out.cell 5 _ rfl
 have kA0 := HA.out.cell 0 _ rfl
 have kA1 := HA.out.cell 1 _ rfl
 have kA2 := HA.out.cell 2 _ rfl
 have kA3 := HA.out.cell 3 _ rfl
 have kB0 := HB.out.cell 0 _ rfl
 have kB1 := HB.out.cell 1 _ rfl
 have kB2 := HB.out.cell 2 _ rfl
 have kB3 := HB.out.cell 3 _ rfl
 have q15 := newA Y2 (.cells #[.int .u64 (lim b 0), .int .u64 (lim b 1), .int .u64 (lim b 2), .int .u64 (lim b 3), .int .u64 (lim a 0), .int .u64 (lim a 1), .int .u64 (lim a 2), .int .u64 (lim a 3)] 24)
 have S4t := made_ofC Y2 [b, a] [.int .u64 (lim b 0), .int .u64 (lim b 1), .int .u64 (lim b 2), .int .u64 (lim b 3), .int .u64 (lim a 0), .int .u64 (lim a 1), .int .u64 (lim a 2), .int .u64 (lim a 3)] rfl (by simp only [List.mem_cons, List.not_mem_nil, or_false, forall_eq_or_imp, forall_eq]; exact ⟨Vb.out, Va.out⟩) (by simp)
 try simp only [World.size_alloc] at S4t
 have S4 := hid S4t
 clear S4t
 replace HTB := hid (HTB.out.later q15)
 replace HA := hid (HA.out.later q15)
 replace HB := hid (HB.out.later q15)
 replace HU := hid (HU.out.later q15)
 replace HK := hid (HK.out.later q15)
 replace QQ := hid (QQ.out.trans (q15.mono QQ.out.size))
 clear q15
 go_wp2_with fail
 refine (top_is _ HTB.out _ _ _ _ (by decide) S4.out (by simp) G3.out _ R3.out).mono ?_
 rintro _ w16 ⟨rfl, _, q⟩
 replace HTB := hid (HTB.out.later q)
 replace HA := hid (HA.out.later q)
 replace HB := hid (HB.out.later q)
 replace HU := hid (HU.out.later q)
 replace HK := hid (HK.out.later q)
 replace S4 := hid (S4.out.later q)
 replace QQ := hid (QQ.out.trans (q.mono QQ.out.size))
 clear q
 clear kK0 kK1 kK2 kK3 kK4 kK5 kA0 kA1 kA2 kA3 kB0 kB1 kB2 kB3
 clear S4
 have ZR := Has.new w16 24 #[.int .u64 0, .int .u64 0, .int .u64 0, .int .u64 0]
 try simp only [World.size_alloc] at ZR
 have zR0 := ZR.cell 0 _ rfl
 have yR0 := ZR.frozen 0
 have zR1 := ZR.cell 1 _ rfl
 have yR1 := ZR.frozen 1
 have zR2 := ZR.cell 2 _ rfl
 have yR2 := ZR.frozen 2
 have zR3 := ZR.cell 3 _ rfl
 have yR3 := ZR.frozen 3
 clear ZR
 have LR := hid QQ.out.size
 have q17 := newA w16 (.cells #[.int .u64 y3, .int .u64 0, .int .u64 0, .int .u64 0] 24)
 have HRt := Has.new w16 24 #[.int .u64 y3, .int .u64 0, .int .u64 0, .int .u64 0]
 try simp only [World.size_alloc] at HRt
 have HR := hid HRt
 clear HRt
 replace HTB := hid (HTB.out.later q17)
 replace HA := hid (HA.out.later q17)
 replace HB := hid (HB.out.later q17)
 replace HU := hid (HU.out.later q17)
 replace HK := hid (HK.out.later q17)
 replace QQ := hid (QQ.out.trans (q17.mono QQ.out.size))
 clear q17
 have kR0 := HR.out.cell 0 _ rfl
 have kR1 := HR.out.cell 1 _ rfl
 have kR2 := HR.out.cell 2 _ rfl
 have kR3 := HR.out.cell 3 _ rfl
 have hy := Y3.out
 go_wp2_with fail
 clear hy
 clear zR0 yR0 zR1 yR1 zR2 yR2 zR3 yR3 kR0 kR1 kR2 kR3
 obtain ⟨V3, hV3⟩ : ∃ V, (w16.alloc (.cells #[.int .u64 y3, .int .u64 0, .int .u64 0, .int .u64 0] 24)) = V := ⟨_, rfl⟩
 rw [hV3] at HTB HA HB HU HK HR QQ ⊢
 clear hV3
 have hu : ∀ x : Ext V3, x.w.cell? ⟨w3.heap.size, 1, none⟩ = some (.int .u64 0) := fun x => (HU.out.later x.below).cell 1 _ rfl
 have hr : ∀ x : Ext V3, x.w.cell? ⟨w16.heap.size, 0, none⟩ = some (.int .u64 y3) := fun x => (HR.out.later x.below).cell 0 _ rfl
 have he := E3.out
 refine wp_region_mix (C := Grows V3) [some true, some true, some true, some true, some true, some true, some true, some true, some true, none, none] hmx (by kernel_rfl) (by kernel_rfl) (grows_refl V3) ?_
 simp only [headOf, tailOf]
 repeat (go_big_quiet_step (fail))
 refine wpQuiet_nil ?_
 rintro _ ⟨x3, rfl⟩
 clear hu hr he
 have qx := x3.below
 replace HTB := hid (HTB.out.later qx)
 replace HA := hid (HA.out.later qx)
 replace HB := hid (HB.out.later qx)
 replace HU := hid (HU.out.later qx)
 replace HK := hid (HK.out.later qx)
 replace HR := hid (HR.out.later qx)
 replace QQ := hid (QQ.out.trans (qx.mono QQ.out.size))
 clear qx HR
 have c0 := HU.out.cell 1 _ rfl
 have z0 := HU.out.frozen 1
 have PA := hid (HA.out.other (p := ⟨w3.heap.size, 1, none⟩) (Nat.ne_of_lt NA.out) (.int .u64 y3))
 have PB := hid (HB.out.other (p := ⟨w3.heap.size, 1, none⟩) (Nat.ne_of_lt NB.out) (.int .u64 y3))
 have PK := hid (HK.out.other (p := ⟨w3.heap.size, 1, none⟩) (Nat.ne_of_gt NK.out) (.int .u64 y3))
 have PU := hid (HU.out.set 1 (.int .u64 y3))
 have PT := hid (HTB.out.other (p := ⟨w3.heap.size, 1, none⟩) LU.out (.int .u64 y3))
 have PQ := hid (QQ.out.setCell (p := ⟨w3.heap.size, 1, none⟩) QU.out (.int .u64 y3))
 clear HA HB HK HU HTB QQ
 go_wp2_with fail
 rw [calmPost_normal]
 go_wp2_with fail
 obtain ⟨Y3, hY3⟩ : ∃ V, (x3.w.setCell ⟨w3.heap.size, 1, none⟩ (.int .u64 y3)) = V := ⟨_, rfl⟩
 rw [hY3] at PA PB PK PU PT PQ ⊢
 clear hY3 c0 z0
 have HA := PA
 clear PA
 have HB := PB
 clear PB
 have HK := PK
 clear PK
 have HU := PU
 clear PU
 have HTB := PT
 clear PT
 have QQ := PQ
 clear PQ
 rw [rounds_succ]
 have kK0 := HK.out.cell 0 _ rfl
 have kK1 := HK.out.cell 1 _ rfl
 have kK2 := HK.out.cell 2 _ rfl
 have kK3 := HK.out.cell 3 _ rfl
 have kK4 := HK.out.cell 4 _ rfl
 have kK5 := HK.out.cell 5 _ rfl
 have kA0 := HA.out.cell 0 _ rfl
 have kA1 := HA.out.cell 1 _ rfl
 have kA2 := HA.out.cell 2 _ rfl
 have kA3 := HA.out.cell 3 _ rfl
 have kB0 := HB.out.cell 0 _ rfl
 have kB1 := HB.out.cell 1 _ rfl
 have kB2 := HB.out.cell 2 _ rfl
 have kB3 := HB.out.cell 3 _ rfl
 have q18 := newA Y3 (.cells #[.int .u64 (lim b 0), .int .u64 (lim b 1), .int .u64 (lim b 2), .int .u64 (lim b 3), .int .u64 (lim a 0), .int .u64 (lim a 1), .int .u64 (lim a 2), .int .u64 (lim a 3)] 24)
 have S5t := made_ofC Y3 [b, a] [.int .u64 (lim b 0), .int .u64 (lim b 1), .int .u64 (lim b 2), .int .u64 (lim b 3), .int .u64 (lim a 0), .int .u64 (lim a 1), .int .u64 (lim a 2), .int .u64 (lim a 3)] rfl (by simp only [List.mem_cons, List.not_mem_nil, or_false, forall_eq_or_imp, forall_eq]; exact ⟨Vb.out, Va.out⟩) (by simp)
 try simp only [World.size_alloc] at S5t
 have S5 := hid S5t
 clear S5t
 replace HTB := hid (HTB.out.later q18)
 replace HA := hid (HA.out.later q18)
 replace HB := hid (HB.out.later q18)
 replace HU := hid (HU.out.later q18)
 replace HK := hid (HK.out.later q18)
 replace QQ := hid (QQ.out.trans (q18.mono QQ.out.size))
 clear q18
 go_wp2_with fail
 refine (top_is _ HTB.out _ _ _ _ (by decide) S5.out (by simp) G4.out _ R4.out).mono ?_
 rintro _ w19 ⟨rfl, _, q⟩
 replace HTB := hid (HTB.out.later q)
 replace HA := hid (HA.out.later q)
 replace HB := hid (HB.out.later q)
 replace HU := hid (HU.out.later q)
 replace HK := hid (HK.out.later q)
 replace S5 := hid (S5.out.later q)
 replace QQ := hid (QQ.out.trans (q.mono QQ.out.size))
 clear q
 clear kK0 kK1 kK2 kK3 kK4 kK5 kA0 kA1 kA2 kA3 kB0 kB1 kB2 kB3
 clear S5
 have ZR := Has.new w19 24 #[.int .u64 0, .int .u64 0, .int .u64 0, .int .u64 0]
 try simp only [World.size_alloc] at ZR
 have zR0 := ZR.cell 0 _ rfl
 have yR0 := ZR.frozen 0
 have zR1 := ZR.cell 1 _ rfl
 have yR1 := ZR.frozen 1
 have zR2 := ZR.cell 2 _ rfl
 have yR2 := ZR.frozen 2
 have zR3 := ZR.cell 3 _ rfl
 have yR3 := ZR.frozen 3
 clear ZR
 have LR := hid QQ.out.size
 have q20 := newA w19 (.cells #[.int .u64 y4, .int .u64 0, .int .u64 0, .int .u64 0] 24)
 have HRt := Has.new w19 24 #[.int .u64 y4, .int .u64 0, .int .u64 0, .int .u64 0]
 try simp only [World.size_alloc] at HRt
 have HR := hid HRt
 clear HRt
 replace HTB := hid (HTB.out.later q20)
 replace HA := hid (HA.out.later q20)
 replace HB := hid (HB.out.later q20)
 replace HU := hid (HU.out.later q20)
 replace HK := hid (HK.out.later q20)
 replace QQ := hid (QQ.out.trans (q20.mono QQ.out.size))
 clear q20
 have kR0 := HR.out.cell 0 _ rfl
 have kR1 := HR.out.cell 1 _ rfl
 have kR2 := HR.out.cell 2 _ rfl
 have kR3 := HR.out.cell 3 _ rfl
 have hy := Y4.out
 go_wp2_with fail
 clear hy
 clear zR0 yR0 zR1 yR1 zR2 yR2 zR3 yR3 kR0 kR1 kR2 kR3
 obtain ⟨V4, hV4⟩ : ∃ V, (w19.alloc (.cells #[.int .u64 y4, .int .u64 0, .int .u64 0, .int .u64 0] 24)) = V := ⟨_, rfl⟩
 rw [hV4] at HTB HA HB HU HK HR QQ ⊢
 clear hV4
 have hu : ∀ x : Ext V4, x.w.cell? ⟨w3.heap.size, 1, none⟩ = some (.int .u64 (y3)) := fun x => (HU.out.later x.below).cell 1 _ rfl
 have hr : ∀ x : Ext V4, x.w.cell? ⟨w19.heap.size, 0, none⟩ = some (.int .u64 y4) := fun x => (HR.out.later x.below).cell 0 _ rfl
 have he := E4.out
 refine wp_region_mix (C := Grows V4) [some true, some true, some true, some true, some true, some true, some true, some true, some true, none, none] hmx (by kernel_rfl) (by kernel_rfl) (grows_refl V4) ?_
 simp only [headOf, tailOf]
 repeat (go_big_quiet_step (fail))
 refine wpQuiet_nil ?_
 rintro _ ⟨x4, rfl⟩
 clear hu hr he
 have qx := x4.below
 replace HTB := hid (HTB.out.later qx)
 replace HA := hid (HA.out.later qx)
 replace HB := hid (HB.out.later qx)
 replace HU := hid (HU.out.later qx)
 replace HK := hid (HK.out.later qx)
 replace HR := hid (HR.out.later qx)
 replace QQ := hid (QQ.out.trans (qx.mono QQ.out.size))
 clear qx HR
 have c0 := HU.out.cell 1 _ rfl
 have z0 := HU.out.frozen 1
 have PA := hid (HA.out.other (p := ⟨w3.heap.size, 1, none⟩) (Nat.ne_of_lt NA.out) (.int .u64 x5))
 have PB := hid (HB.out.other (p := ⟨w3.heap.size, 1, none⟩) (Nat.ne_of_lt NB.out) (.int .u64 x5))
 have PK := hid (HK.out.other (p := ⟨w3.heap.size, 1, none⟩) (Nat.ne_of_gt NK.out) (.int .u64 x5))
 have PU := hid (HU.out.set 1 (.int .u64 x5))
 have PT := hid (HTB.out.other (p := ⟨w3.heap.size, 1, none⟩) LU.out (.int .u64 x5))
 have PQ := hid (QQ.out.setCell (p := ⟨w3.heap.size, 1, none⟩) QU.out (.int .u64 x5))
 clear HA HB HK HU HTB QQ
 go_wp2_with fail
 rw [calmPost_normal]
 go_wp2_with fail
 obtain ⟨Y4, hY4⟩ : ∃ V, (x4.w.setCell ⟨w3.heap.size, 1, none⟩ (.int .u64 x5)) = V := ⟨_, rfl⟩
 rw [hY4] at PA PB PK PU PT PQ ⊢
 clear hY4 c0 z0
 have HA := PA
 clear PA
 have HB := PB
 clear PB
 have HK := PK
 clear PK
 have HU := PU
 clear PU
 have HTB := PT
 clear PT
 have QQ := PQ
 clear PQ
 rw [rounds_succ]
 have kK0 := HK.out.cell 0 _ rfl
 have kK1 := HK.out.cell 1 _ rfl
 have kK2 := HK.out.cell 2 _ rfl
 have kK3 := HK.out.cell 3 _ rfl
 have kK4 := HK.out.cell 4 _ rfl
 have kK5 := HK.out.cell 5 _ rfl
 have kA0 := HA.out.cell 0 _ rfl
 have kA1 := HA.out.cell 1 _ rfl
 have kA2 := HA.out.cell 2 _ rfl
 have kA3 := HA.out.cell 3 _ rfl
 have kB0 := HB.out.cell 0 _ rfl
 have kB1 := HB.out.cell 1 _ rfl
 have kB2 := HB.out.cell 2 _ rfl
 have kB3 := HB.out.cell 3 _ rfl
 have q21 := newA Y4 (.cells #[.int .u64 (lim b 0), .int .u64 (lim b 1), .int .u64 (lim b 2), .int .u64 (lim b 3), .int .u64 (lim a 0), .int .u64 (lim a 1), .int .u64 (lim a 2), .int .u64 (lim a 3)] 24)
 have S6t := made_ofC Y4 [b, a] [.int .u64 (lim b 0), .int .u64 (lim b 1), .int .u64 (lim b 2), .int .u64 (lim b 3), .int .u64 (lim a 0), .int .u64 (lim a 1), .int .u64 (lim a 2), .int .u64 (lim a 3)] rfl (by simp only [List.mem_cons, List.not_mem_nil, or_false, forall_eq_or_imp, forall_eq]; exact ⟨Vb.out, Va.out⟩) (by simp)
 try simp only [World.size_alloc] at S6t
 have S6 := hid S6t
 clear S6t
 replace HTB := hid (HTB.out.later q21)
 replace HA := hid (HA.out.later q21)
 replace HB := hid (HB.out.later q21)
 replace HU := hid (HU.out.later q21)
 replace HK := hid (HK.out.later q21)
 replace QQ := hid (QQ.out.trans (q21.mono QQ.out.size))
 clear q21
 go_wp2_with fail
 refine (top_is _ HTB.out _ _ _ _ (by decide) S6.out (by simp) G5.out _ R5.out).mono ?_
 rintro _ w22 ⟨rfl, _, q⟩
 replace HTB := hid (HTB.out.later q)
 replace HA := hid (HA.out.later q)
 replace HB := hid (HB.out.later q)
 replace HU := hid (HU.out.later q)
 replace HK := hid (HK.out.later q)
 replace S6 := hid (S6.out.later q)
 replace QQ := hid (QQ.out.trans (q.mono QQ.out.size))
 clear q
 clear kK0 kK1 kK2 kK3 kK4 kK5 kA0 kA1 kA2 kA3 kB0 kB1 kB2 kB3
 clear S6
 have ZR := Has.new w22 24 #[.int .u64 0, .int .u64 0, .int .u64 0, .int .u64 0]
 try simp only [World.size_alloc] at ZR
 have zR0 := ZR.cell 0 _ rfl
 have yR0 := ZR.frozen 0
 have zR1 := ZR.cell 1 _ rfl
 have yR1 := ZR.frozen 1
 have zR2 := ZR.cell 2 _ rfl
 have yR2 := ZR.frozen 2
 have zR3 := ZR.cell 3 _ rfl
 have yR3 := ZR.frozen 3
 clear ZR
 have LR := hid QQ.out.size
 have q23 := newA w22 (.cells #[.int .u64 y5, .int .u64 0, .int .u64 0, .int .u64 0] 24)
 have HRt := Has.new w22 24 #[.int .u64 y5, .int .u64 0, .int .u64 0, .int .u64 0]
 try simp only [World.size_alloc] at HRt
 have HR := hid HRt
 clear HRt
 replace HTB := hid (HTB.out.later q23)
 replace HA := hid (HA.out.later q23)
 replace HB := hid (HB.out.later q23)
 replace HU := hid (HU.out.later q23)
 replace HK := hid (HK.out.later q23)
 replace QQ := hid (QQ.out.trans (q23.mono QQ.out.size))
 clear q23
 have kR0 := HR.out.cell 0 _ rfl
 have kR1 := HR.out.cell 1 _ rfl
 have kR2 := HR.out.cell 2 _ rfl
 have kR3 := HR.out.cell 3 _ rfl
 have hy := Y5.out
 go_wp2_with fail
 clear hy
 clear zR0 yR0 zR1 yR1 zR2 yR2 zR3 yR3 kR0 kR1 kR2 kR3
 obtain ⟨V5, hV5⟩ : ∃ V, (w22.alloc (.cells #[.int .u64 y5, .int .u64 0, .int .u64 0, .int .u64 0] 24)) = V := ⟨_, rfl⟩
 rw [hV5] at HTB HA HB HU HK HR QQ ⊢
 clear hV5
 have hu : ∀ x : Ext V5, x.w.cell? ⟨w3.heap.size, 1, none⟩ = some (.int .u64 (x5)) := fun x => (HU.out.later x.below).cell 1 _ rfl
 have hr : ∀ x : Ext V5, x.w.cell? ⟨w22.heap.size, 0, none⟩ = some (.int .u64 y5) := fun x => (HR.out.later x.below).cell 0 _ rfl
 have he := E5.out
 refine wp_region_mix (C := Grows V5) [some true, some true, some true, some true, some true, some true, some true, some true, some true, none, none] hmx (by kernel_rfl) (by kernel_rfl) (grows_refl V5) ?_
 simp only [headOf, tailOf]
 repeat (go_big_quiet_step (fail))
 refine wpQuiet_nil ?_
 rintro _ ⟨x5, rfl⟩
 clear hu hr he
 have qx := x5.below
 replace HTB := hid (HTB.out.later qx)
 replace HA := hid (HA.out.later qx)
 replace HB := hid (HB.out.later qx)
 replace HU := hid (HU.out.later qx)
 replace HK := hid (HK.out.later qx)
 replace HR := hid (HR.out.later qx)
 replace QQ := hid (QQ.out.trans (qx.mono QQ.out.size))
 clear qx HR
 have c0 := HU.out.cell 1 _ rfl
 have z0 := HU.out.frozen 1
 have PA := hid (HA.out.other (p := ⟨w3.heap.size, 1, none⟩) (Nat.ne_of_lt NA.out) (.int .u64 1))
 have PB := hid (HB.out.other (p := ⟨w3.heap.size, 1, none⟩) (Nat.ne_of_lt NB.out) (.int .u64 1))
 have PK := hid (HK.out.other (p := ⟨w3.heap.size, 1, none⟩) (Nat.ne_of_gt NK.out) (.int .u64 1))
 have PU := hid (HU.out.set 1 (.int .u64 1))
 have PT := hid (HTB.out.other (p := ⟨w3.heap.size, 1, none⟩) LU.out (.int .u64 1))
 have PQ := hid (QQ.out.setCell (p := ⟨w3.heap.size, 1, none⟩) QU.out (.int .u64 1))
 clear HA HB HK HU HTB QQ
 go_wp2_with fail
 rw [calmPost_normal]
 go_wp2_with fail
 obtain ⟨Y5, hY5⟩ : ∃ V, (x5.w.setCell ⟨w3.heap.size, 1, none⟩ (.int .u64 1)) = V := ⟨_, rfl⟩
 rw [hY5] at PA PB PK PU PT PQ ⊢
 clear hY5 c0 z0
 have HA := PA
 clear PA
 have HB := PB
 clear PB
 have HK := PK
 clear PK
 have HU := PU
 clear PU
 have HTB := PT
 clear PT
 have QQ := PQ
 clear PQ
 rw [rounds_succ]
 clear HK
 have kA0 := HA.out.cell 0 _ rfl
 have kA1 := HA.out.cell 1 _ rfl
 have kA2 := HA.out.cell 2 _ rfl
 have kA3 := HA.out.cell 3 _ rfl
 have kB0 := HB.out.cell 0 _ rfl
 have kB1 := HB.out.cell 1 _ rfl
 have kB2 := HB.out.cell 2 _ rfl
 have kB3 := HB.out.cell 3 _ rfl
 have q24 := newA Y5 (.cells #[.int .u64 (lim a 0), .int .u64 (lim a 1), .int .u64 (lim a 2), .int .u64 (lim a 3), .int .u64 (lim b 0), .int .u64 (lim b 1), .int .u64 (lim b 2), .int .u64 (lim b 3)] 24)
 have S7t := made_ofC Y5 [a, b] [.int .u64 (lim a 0), .int .u64 (lim a 1), .int .u64 (lim a 2), .int .u64 (lim a 3), .int .u64 (lim b 0), .int .u64 (lim b 1), .int .u64 (lim b 2), .int .u64 (lim b 3)] rfl (by simp only [List.mem_cons, List.not_mem_nil, or_false, forall_eq_or_imp, forall_eq]; exact ⟨Va.out, Vb.out⟩) (by simp)
 try simp only [World.size_alloc] at S7t
 have S7 := hid S7t
 clear S7t
 replace HTB := hid (HTB.out.later q24)
 replace HA := hid (HA.out.later q24)
 replace HB := hid (HB.out.later q24)
 replace HU := hid (HU.out.later q24)
 replace QQ := hid (QQ.out.trans (q24.mono QQ.out.size))
 clear q24
 go_wp2_with fail
 refine (top_is _ HTB.out _ _ _ _ (by decide) S7.out (by simp) T1.out (.agg #[.int .u64 (lim s 0), .int .u64 (lim s 1), .int .u64 (lim s 2), .int .u64 (lim s 3)]) rfl).mono ?_
 rintro _ w25 ⟨rfl, hv, q⟩
 replace HTB := hid (HTB.out.later q)
 replace HA := hid (HA.out.later q)
 replace HB := hid (HB.out.later q)
 replace HU := hid (HU.out.later q)
 replace S7 := hid (S7.out.later q)
 replace QQ := hid (QQ.out.trans (q.mono QQ.out.size))
 clear q
 have Vs := hid hv
 clear hv
 clear kA0 kA1 kA2 kA3 kB0 kB1 kB2 kB3
 clear S7
 have ZS := Has.new w25 24 #[.int .u64 0, .int .u64 0, .int .u64 0, .int .u64 0]
 try simp only [World.size_alloc] at ZS
 have zS0 := ZS.cell 0 _ rfl
 have yS0 := ZS.frozen 0
 have zS1 := ZS.cell 1 _ rfl
 have yS1 := ZS.frozen 1
 have zS2 := ZS.cell 2 _ rfl
 have yS2 := ZS.frozen 2
 have zS3 := ZS.cell 3 _ rfl
 have yS3 := ZS.frozen 3
 clear ZS
 have LS := hid QQ.out.size
 have q26 := newA w25 (.cells #[.int .u64 (lim s 0), .int .u64 (lim s 1), .int .u64 (lim s 2), .int .u64 (lim s 3)] 24)
 have HSt := Has.new w25 24 #[.int .u64 (lim s 0), .int .u64 (lim s 1), .int .u64 (lim s 2), .int .u64 (lim s 3)]
 try simp only [World.size_alloc] at HSt
 have HS := hid HSt
 clear HSt
 replace HTB := hid (HTB.out.later q26)
 replace HA := hid (HA.out.later q26)
 replace HB := hid (HB.out.later q26)
 replace HU := hid (HU.out.later q26)
 replace QQ := hid (QQ.out.trans (q26.mono QQ.out.size))
 clear q26
 have kB0 := HB.out.cell 0 _ rfl
 have kB1 := HB.out.cell 1 _ rfl
 have kB2 := HB.out.cell 2 _ rfl
 have kB3 := HB.out.cell 3 _ rfl
 have kS0 := HS.out.cell 0 _ rfl
 have kS1 := HS.out.cell 1 _ rfl
 have kS2 := HS.out.cell 2 _ rfl
 have kS3 := HS.out.cell 3 _ rfl
 have q27 := (Below.refl (w25.alloc (.cells #[.int .u64 (lim s 0), .int .u64 (lim s 1), .int .u64 (lim s 2), .int .u64 (lim s 3)] 24)).heap.size (w25.alloc (.cells #[.int .u64 (lim s 0), .int .u64 (lim s 1), .int .u64 (lim s 2), .int .u64 (lim s 3)] 24))).alloc (Nat.le_refl _) (.cells #[.int .u64 (lim b 0), .int .u64 (lim b 1), .int .u64 (lim b 2), .int .u64 (lim b 3), .int .u64 (lim s 0), .int .u64 (lim s 1), .int .u64 (lim s 2), .int .u64 (lim s 3)] 24)
 have S8t := made_ofC (w25.alloc (.cells #[.int .u64 (lim s 0), .int .u64 (lim s 1), .int .u64 (lim s 2), .int .u64 (lim s 3)] 24)) [b, s] [.int .u64 (lim b 0), .int .u64 (lim b 1), .int .u64 (lim b 2), .int .u64 (lim b 3), .int .u64 (lim s 0), .int .u64 (lim s 1), .int .u64 (lim s 2), .int .u64 (lim s 3)] rfl (by simp only [List.mem_cons, List.not_mem_nil, or_false, forall_eq_or_imp, forall_eq]; exact ⟨Vb.out, Vs.out⟩) (by simp)
 try simp only [World.size_alloc] at S8t
 have S8 := hid S8t
 clear S8t
 replace HTB := hid (HTB.out.later q27)
 replace HA := hid (HA.out.later q27)
 replace HB := hid (HB.out.later q27)
 replace HU := hid (HU.out.later q27)
 replace HS := hid (HS.out.later q27)
 replace QQ := hid (QQ.out.trans (q27.mono QQ.out.size))
 clear q27
 go_wp2_with fail
 refine (top_is _ HTB.out _ _ _ _ (by decide) S8.out (by simp) T2.out (.agg #[.int .u64 (lim a 0), .int .u64 (lim a 1), .int .u64 (lim a 2), .int .u64 (lim a 3)]) rfl).mono ?_
 rintro _ w28 ⟨rfl, hv, q⟩
 replace HTB := hid (HTB.out.later q)
 replace HA := hid (HA.out.later q)
 replace HB := hid (HB.out.later q)
 replace HU := hid (HU.out.later q)
 replace HS := hid (HS.out.later q)
 replace S8 := hid (S8.out.later q)
 replace QQ := hid (QQ.out.trans (q.mono QQ.out.size))
 clear q
 clear hv
 clear zS0 yS0 zS1 yS1 zS2 yS2 zS3 yS3 kB0 kB1 kB2 kB3 kS0 kS1 kS2 kS3
 clear S8
 have ZD := Has.new w28 24 #[.int .u64 0, .int .u64 0, .int .u64 0, .int .u64 0]
 try simp only [World.size_alloc] at ZD
 have zD0 := ZD.cell 0 _ rfl
 have yD0 := ZD.frozen 0
 have zD1 := ZD.cell 1 _ rfl
 have yD1 := ZD.frozen 1
 have zD2 := ZD.cell 2 _ rfl
 have yD2 := ZD.frozen 2
 have zD3 := ZD.cell 3 _ rfl
 have yD3 := ZD.frozen 3
 clear ZD
 have LD := hid QQ.out.size
 have q29 := newA w28 (.cells #[.int .u64 (lim a 0), .int .u64 (lim a 1), .int .u64 (lim a 2), .int .u64 (lim a 3)] 24)
 have HDt := Has.new w28 24 #[.int .u64 (lim a 0), .int .u64 (lim a 1), .int .u64 (lim a 2), .int .u64 (lim a 3)]
 try simp only [World.size_alloc] at HDt
 have HD := hid HDt
 clear HDt
 replace HTB := hid (HTB.out.later q29)
 replace HA := hid (HA.out.later q29)
 replace HB := hid (HB.out.later q29)
 replace HU := hid (HU.out.later q29)
 replace HS := hid (HS.out.later q29)
 replace QQ := hid (QQ.out.trans (q29.mono QQ.out.size))
 clear q29
 have kA0 := HA.out.cell 0 _ rfl
 have kA1 := HA.out.cell 1 _ rfl
 have kA2 := HA.out.cell 2 _ rfl
 have kA3 := HA.out.cell 3 _ rfl
 have q30 := (Below.refl (w28.alloc (.cells #[.int .u64 (lim a 0), .int .u64 (lim a 1), .int .u64 (lim a 2), .int .u64 (lim a 3)] 24)).heap.size (w28.alloc (.cells #[.int .u64 (lim a 0), .int .u64 (lim a 1), .int .u64 (lim a 2), .int .u64 (lim a 3)] 24))).alloc (Nat.le_refl _) (.cells #[.int .u64 (lim a 0), .int .u64 (lim a 1), .int .u64 (lim a 2), .int .u64 (lim a 3)] 24)
 have S9t := made_ofC (w28.alloc (.cells #[.int .u64 (lim a 0), .int .u64 (lim a 1), .int .u64 (lim a 2), .int .u64 (lim a 3)] 24)) [a] [.int .u64 (lim a 0), .int .u64 (lim a 1), .int .u64 (lim a 2), .int .u64 (lim a 3)] rfl (by simp only [List.mem_cons, List.not_mem_nil, or_false, forall_eq]; exact Va.out) (by simp)
 try simp only [World.size_alloc] at S9t
 have S9 := hid S9t
 clear S9t
 replace HTB := hid (HTB.out.later q30)
 replace HA := hid (HA.out.later q30)
 replace HB := hid (HB.out.later q30)
 replace HU := hid (HU.out.later q30)
 replace HS := hid (HS.out.later q30)
 replace HD := hid (HD.out.later q30)
 replace QQ := hid (QQ.out.trans (q30.mono QQ.out.size))
 clear q30
 go_wp2_with fail
 refine (top_is _ HTB.out _ _ _ _ (by decide) S9.out (by simp) T3.out (.agg #[.int .u64 (lim n 0), .int .u64 (lim n 1), .int .u64 (lim n 2), .int .u64 (lim n 3)]) rfl).mono ?_
 rintro _ w31 ⟨rfl, hv, q⟩
 replace HTB := hid (HTB.out.later q)
 replace HA := hid (HA.out.later q)
 replace HB := hid (HB.out.later q)
 replace HU := hid (HU.out.later q)
 replace HS := hid (HS.out.later q)
 replace HD := hid (HD.out.later q)
 replace S9 := hid (S9.out.later q)
 replace QQ := hid (QQ.out.trans (q.mono QQ.out.size))
 clear q
 have Vn := hid hv
 clear hv
 clear zD0 yD0 zD1 yD1 zD2 yD2 zD3 yD3 kA0 kA1 kA2 kA3
 clear S9
 have ZN := Has.new w31 24 #[.int .u64 0, .int .u64 0, .int .u64 0, .int .u64 0]
 try simp only [World.size_alloc] at ZN
 have zN0 := ZN.cell 0 _ rfl
 have yN0 := ZN.frozen 0
 have zN1 := ZN.cell 1 _ rfl
 have yN1 := ZN.frozen 1
 have zN2 := ZN.cell 2 _ rfl
 have yN2 := ZN.frozen 2
 have zN3 := ZN.cell 3 _ rfl
 have yN3 := ZN.frozen 3
 clear ZN
 have LN := hid QQ.out.size
 have q32 := newA w31 (.cells #[.int .u64 (lim n 0), .int .u64 (lim n 1), .int .u64 (lim n 2), .int .u64 (lim n 3)] 24)
 have HNt := Has.new w31 24 #[.int .u64 (lim n 0), .int .u64 (lim n 1), .int .u64 (lim n 2), .int .u64 (lim n 3)]
 try simp only [World.size_alloc] at HNt
 have HN := hid HNt
 clear HNt
 replace HTB := hid (HTB.out.later q32)
 replace HA := hid (HA.out.later q32)
 replace HB := hid (HB.out.later q32)
 replace HU := hid (HU.out.later q32)
 replace HS := hid (HS.out.later q32)
 replace HD := hid (HD.out.later q32)
 replace QQ := hid (QQ.out.trans (q32.mono QQ.out.size))
 clear q32
 have kN0 := HN.out.cell 0 _ rfl
 have kN1 := HN.out.cell 1 _ rfl
 have kN2 := HN.out.cell 2 _ rfl
 have kN3 := HN.out.cell 3 _ rfl
 have q33 := (Below.refl (w31.alloc (.cells #[.int .u64 (lim n 0), .int .u64 (lim n 1), .int .u64 (lim n 2), .int .u64 (lim n 3)] 24)).heap.size (w31.alloc (.cells #[.int .u64 (lim n 0), .int .u64 (lim n 1), .int .u64 (lim n 2), .int .u64 (lim n 3)] 24))).alloc (Nat.le_refl _) (.cells #[.int .u64 (lim n 0), .int .u64 (lim n 1), .int .u64 (lim n 2), .int .u64 (lim n 3)] 24)
 have S10t := made_ofC (w31.alloc (.cells #[.int .u64 (lim n 0), .int .u64 (lim n 1), .int .u64 (lim n 2), .int .u64 (lim n 3)] 24)) [n] [.int .u64 (lim n 0), .int .u64 (lim n 1), .int .u64 (lim n 2), .int .u64 (lim n 3)] rfl (by simp only [List.mem_cons, List.not_mem_nil, or_false, forall_eq]; exact Vn.out) (by simp)
 try simp only [World.size_alloc] at S10t
 have S10 := hid S10t
 clear S10t
 replace HTB := hid (HTB.out.later q33)
 replace HA := hid (HA.out.later q33)
 replace HB := hid (HB.out.later q33)
 replace HU := hid (HU.out.later q33)
 replace HS := hid (HS.out.later q33)
 replace HD := hid (HD.out.later q33)
 replace HN := hid (HN.out.later q33)
 replace QQ := hid (QQ.out.trans (q33.mono QQ.out.size))
 clear q33
 go_wp2_with fail
 refine (top_is _ HTB.out _ _ _ _ (by decide) S10.out (by simp) T4.out (.agg #[.int .u64 (lim a 0), .int .u64 (lim a 1), .int .u64 (lim a 2), .int .u64 (lim a 3)]) rfl).mono ?_
 rintro _ w34 ⟨rfl, hv, q⟩
 replace HTB := hid (HTB.out.later q)
 replace HA := hid (HA.out.later q)
 replace HB := hid (HB.out.later q)
 replace HU := hid (HU.out.later q)
 replace HS := hid (HS.out.later q)
 replace HD := hid (HD.out.later q)
 replace HN := hid (HN.out.later q)
 replace S10 := hid (S10.out.later q)
 replace QQ := hid (QQ.out.trans (q.mono QQ.out.size))
 clear q
 clear hv
 clear zN0 yN0 zN1 yN1 zN2 yN2 zN3 yN3 kN0 kN1 kN2 kN3
 clear S10
 have ZM := Has.new w34 24 #[.int .u64 0, .int .u64 0, .int .u64 0, .int .u64 0]
 try simp only [World.size_alloc] at ZM
 have zM0 := ZM.cell 0 _ rfl
 have yM0 := ZM.frozen 0
 have zM1 := ZM.cell 1 _ rfl
 have yM1 := ZM.frozen 1
 have zM2 := ZM.cell 2 _ rfl
 have yM2 := ZM.frozen 2
 have zM3 := ZM.cell 3 _ rfl
 have yM3 := ZM.frozen 3
 clear ZM
 have LM := hid QQ.out.size
 have q35 := newA w34 (.cells #[.int .u64 (lim a 0), .int .u64 (lim a 1), .int .u64 (lim a 2), .int .u64 (lim a 3)] 24)
 have HMt := Has.new w34 24 #[.int .u64 (lim a 0), .int .u64 (lim a 1), .int .u64 (lim a 2), .int .u64 (lim a 3)]
 try simp only [World.size_alloc] at HMt
 have HM := hid HMt
 clear HMt
 replace HTB := hid (HTB.out.later q35)
 replace HA := hid (HA.out.later q35)
 replace HB := hid (HB.out.later q35)
 replace HU := hid (HU.out.later q35)
 replace HS := hid (HS.out.later q35)
 replace HD := hid (HD.out.later q35)
 replace HN := hid (HN.out.later q35)
 replace QQ := hid (QQ.out.trans (q35.mono QQ.out.size))
 clear q35
 have kA0 := HA.out.cell 0 _ rfl
 have kA1 := HA.out.cell 1 _ rfl
 have kA2 := HA.out.cell 2 _ rfl
 have kA3 := HA.out.cell 3 _ rfl
 have q36 := (Below.refl (w34.alloc (.cells #[.int .u64 (lim a 0), .int .u64 (lim a 1), .int .u64 (lim a 2), .int .u64 (lim a 3)] 24)).heap.size (w34.alloc (.cells #[.int .u64 (lim a 0), .int .u64 (lim a 1), .int .u64 (lim a 2), .int .u64 (lim a 3)] 24))).alloc (Nat.le_refl _) (.cells #[.int .u64 (lim a 0), .int .u64 (lim a 1), .int .u64 (lim a 2), .int .u64 (lim a 3)] 24)
 have S11t := made_ofC (w34.alloc (.cells #[.int .u64 (lim a 0), .int .u64 (lim a 1), .int .u64 (lim a 2), .int .u64 (lim a 3)] 24)) [a] [.int .u64 (lim a 0), .int .u64 (lim a 1), .int .u64 (lim a 2), .int .u64 (lim a 3)] rfl (by simp only [List.mem_cons, List.not_mem_nil, or_false, forall_eq]; exact Va.out) (by simp)
 try simp only [World.size_alloc] at S11t
 have S11 := hid S11t
 clear S11t
 replace HTB := hid (HTB.out.later q36)
 replace HA := hid (HA.out.later q36)
 replace HB := hid (HB.out.later q36)
 replace HU := hid (HU.out.later q36)
 replace HS := hid (HS.out.later q36)
 replace HD := hid (HD.out.later q36)
 replace HN := hid (HN.out.later q36)
 replace HM := hid (HM.out.later q36)
 replace QQ := hid (QQ.out.trans (q36.mono QQ.out.size))
 clear q36
 go_wp2_with fail
 refine (top_is _ HTB.out _ _ _ _ (by decide) S11.out (by simp) T5.out (.agg #[.int .u64 (lim z 0), .int .u64 (lim z 1), .int .u64 (lim z 2), .int .u64 (lim z 3)]) rfl).mono ?_
 rintro _ w37 ⟨rfl, hv, q⟩
 replace HTB := hid (HTB.out.later q)
 replace HA := hid (HA.out.later q)
 replace HB := hid (HB.out.later q)
 replace HU := hid (HU.out.later q)
 replace HS := hid (HS.out.later q)
 replace HD := hid (HD.out.later q)
 replace HN := hid (HN.out.later q)
 replace HM := hid (HM.out.later q)
 replace S11 := hid (S11.out.later q)
 replace QQ := hid (QQ.out.trans (q.mono QQ.out.size))
 clear q
 have Vz := hid hv
 clear hv
 clear zM0 yM0 zM1 yM1 zM2 yM2 zM3 yM3 kA0 kA1 kA2 kA3
 clear S11
 have ZZ := Has.new w37 24 #[.int .u64 0, .int .u64 0, .int .u64 0, .int .u64 0]
 try simp only [World.size_alloc] at ZZ
 have zZ0 := ZZ.cell 0 _ rfl
 have yZ0 := ZZ.frozen 0
 have zZ1 := ZZ.cell 1 _ rfl
 have yZ1 := ZZ.frozen 1
 have zZ2 := ZZ.cell 2 _ rfl
 have yZ2 := ZZ.frozen 2
 have zZ3 := ZZ.cell 3 _ rfl
 have yZ3 := ZZ.frozen 3
 clear ZZ
 have LZ := hid QQ.out.size
 have q38 := newA w37 (.cells #[.int .u64 (lim z 0), .int .u64 (lim z 1), .int .u64 (lim z 2), .int .u64 (lim z 3)] 24)
 have HZt := Has.new w37 24 #[.int .u64 (lim z 0), .int .u64 (lim z 1), .int .u64 (lim z 2), .int .u64 (lim z 3)]
 try simp only [World.size_alloc] at HZt
 have HZ := hid HZt
 clear HZt
 replace HTB := hid (HTB.out.later q38)
 replace HA := hid (HA.out.later q38)
 replace HB := hid (HB.out.later q38)
 replace HU := hid (HU.out.later q38)
 replace HS := hid (HS.out.later q38)
 replace HD := hid (HD.out.later q38)
 replace HN := hid (HN.out.later q38)
 replace HM := hid (HM.out.later q38)
 replace QQ := hid (QQ.out.trans (q38.mono QQ.out.size))
 clear q38
 have kZ0 := HZ.out.cell 0 _ rfl
 have kZ1 := HZ.out.cell 1 _ rfl
 have kZ2 := HZ.out.cell 2 _ rfl
 have kZ3 := HZ.out.cell 3 _ rfl
 have q39 := (Below.refl (w37.alloc (.cells #[.int .u64 (lim z 0), .int .u64 (lim z 1), .int .u64 (lim z 2), .int .u64 (lim z 3)] 24)).heap.size (w37.alloc (.cells #[.int .u64 (lim z 0), .int .u64 (lim z 1), .int .u64 (lim z 2), .int .u64 (lim z 3)] 24))).alloc (Nat.le_refl _) (.cells #[.int .u64 (lim z 0), .int .u64 (lim z 1), .int .u64 (lim z 2), .int .u64 (lim z 3)] 24)
 have S12t := made_ofC (w37.alloc (.cells #[.int .u64 (lim z 0), .int .u64 (lim z 1), .int .u64 (lim z 2), .int .u64 (lim z 3)] 24)) [z] [.int .u64 (lim z 0), .int .u64 (lim z 1), .int .u64 (lim z 2), .int .u64 (lim z 3)] rfl (by simp only [List.mem_cons, List.not_mem_nil, or_false, forall_eq]; exact Vz.out) (by simp)
 try simp only [World.size_alloc] at S12t
 have S12 := hid S12t
 clear S12t
 replace HTB := hid (HTB.out.later q39)
 replace HA := hid (HA.out.later q39)
 replace HB := hid (HB.out.later q39)
 replace HU := hid (HU.out.later q39)
 replace HS := hid (HS.out.later q39)
 replace HD := hid (HD.out.later q39)
 replace HN := hid (HN.out.later q39)
 replace HM := hid (HM.out.later q39)
 replace HZ := hid (HZ.out.later q39)
 replace QQ := hid (QQ.out.trans (q39.mono QQ.out.size))
 clear q39
 go_wp2_with fail
 refine (top_is _ HTB.out _ _ _ _ (by decide) S12.out (by simp) T6.out (.agg #[.int .u64 1, .int .u64 0, .int .u64 0, .int .u64 0]) one_cells).mono ?_
 rintro _ w40 ⟨rfl, _, q⟩
 replace HTB := hid (HTB.out.later q)
 replace HA := hid (HA.out.later q)
 replace HB := hid (HB.out.later q)
 replace HU := hid (HU.out.later q)
 replace HS := hid (HS.out.later q)
 replace HD := hid (HD.out.later q)
 replace HN := hid (HN.out.later q)
 replace HM := hid (HM.out.later q)
 replace HZ := hid (HZ.out.later q)
 replace S12 := hid (S12.out.later q)
 replace QQ := hid (QQ.out.trans (q.mono QQ.out.size))
 clear q
 clear zZ0 yZ0 zZ1 yZ1 zZ2 yZ2 zZ3 yZ3 kZ0 kZ1 kZ2 kZ3
 clear S12
 have ZY := Has.new w40 24 #[.int .u64 0, .int .u64 0, .int .u64 0, .int .u64 0]
 try simp only [World.size_alloc] at ZY
 have zY0 := ZY.cell 0 _ rfl
 have yY0 := ZY.frozen 0
 have zY1 := ZY.cell 1 _ rfl
 have yY1 := ZY.frozen 1
 have zY2 := ZY.cell 2 _ rfl
 have yY2 := ZY.frozen 2
 have zY3 := ZY.cell 3 _ rfl
 have yY3 := ZY.frozen 3
 clear ZY
 have LY := hid QQ.out.size
 have q41 := newA w40 (.cells #[.int .u64 1, .int .u64 0, .int .u64 0, .int .u64 0] 24)
 have HYt := Has.new w40 24 #[.int .u64 1, .int .u64 0, .int .u64 0, .int .u64 0]
 try simp only [World.size_alloc] at HYt
 have HY := hid HYt
 clear HYt
 replace HTB := hid (HTB.out.later q41)
 replace HA := hid (HA.out.later q41)
 replace HB := hid (HB.out.later q41)
 replace HU := hid (HU.out.later q41)
 replace HS := hid (HS.out.later q41)
 replace HD := hid (HD.out.later q41)
 replace HN := hid (HN.out.later q41)
 replace HM := hid (HM.out.later q41)
 replace HZ := hid (HZ.out.later q41)
 replace QQ := hid (QQ.out.trans (q41.mono QQ.out.size))
 clear q41
 have kA0 := HA.out.cell 0 _ rfl
 have kA1 := HA.out.cell 1 _ rfl
 have kA2 := HA.out.cell 2 _ rfl
 have kA3 := HA.out.cell 3 _ rfl
 have q42 := (Below.refl (w40.alloc (.cells #[.int .u64 1, .int .u64 0, .int .u64 0, .int .u64 0] 24)).heap.size (w40.alloc (.cells #[.int .u64 1, .int .u64 0, .int .u64 0, .int .u64 0] 24))).alloc (Nat.le_refl _) (.cells #[.int .u64 (lim a 0), .int .u64 (lim a 1), .int .u64 (lim a 2), .int .u64 (lim a 3), .int .u64 0, .int .u64 0, .int .u64 0, .int .u64 0] 24)
 have S13t := made_ofC (w40.alloc (.cells #[.int .u64 1, .int .u64 0, .int .u64 0, .int .u64 0] 24)) [a, 0] [.int .u64 (lim a 0), .int .u64 (lim a 1), .int .u64 (lim a 2), .int .u64 (lim a 3), .int .u64 0, .int .u64 0, .int .u64 0, .int .u64 0] rfl (by simp only [List.mem_cons, List.not_mem_nil, or_false, forall_eq_or_imp, forall_eq]; exact ⟨Va.out, (by unfold W256; omega)⟩) (by simp)
 try simp only [World.size_alloc] at S13t
 have S13 := hid S13t
 clear S13t
 replace HTB := hid (HTB.out.later q42)
 replace HA := hid (HA.out.later q42)
 replace HB := hid (HB.out.later q42)
 replace HU := hid (HU.out.later q42)
 replace HS := hid (HS.out.later q42)
 replace HD := hid (HD.out.later q42)
 replace HN := hid (HN.out.later q42)
 replace HM := hid (HM.out.later q42)
 replace HZ := hid (HZ.out.later q42)
 replace HY := hid (HY.out.later q42)
 replace QQ := hid (QQ.out.trans (q42.mono QQ.out.size))
 clear q42
 go_wp2_with fail
 refine (top_is _ HTB.out _ _ _ _ (by decide) S13.out (by simp) T7.out (.agg #[.int .u64 (lim a 0), .int .u64 (lim a 1), .int .u64 (lim a 2), .int .u64 (lim a 3)]) rfl).mono ?_
 rintro _ w43 ⟨rfl, hv, q⟩
 replace HTB := hid (HTB.out.later q)
 replace HA := hid (HA.out.later q)
 replace HB := hid (HB.out.later q)
 replace HU := hid (HU.out.later q)
 replace HS := hid (HS.out.later q)
 replace HD := hid (HD.out.later q)
 replace HN := hid (HN.out.later q)
 replace HM := hid (HM.out.later q)
 replace HZ := hid (HZ.out.later q)
 replace HY := hid (HY.out.later q)
 replace S13 := hid (S13.out.later q)
 replace QQ := hid (QQ.out.trans (q.mono QQ.out.size))
 clear q
 clear hv
 clear zY0 yY0 zY1 yY1 zY2 yY2 zY3 yY3 kA0 kA1 kA2 kA3
 clear S13
 have ZH := Has.new w43 24 #[.int .u64 0, .int .u64 0, .int .u64 0, .int .u64 0]
 try simp only [World.size_alloc] at ZH
 have zH0 := ZH.cell 0 _ rfl
 have yH0 := ZH.frozen 0
 have zH1 := ZH.cell 1 _ rfl
 have yH1 := ZH.frozen 1
 have zH2 := ZH.cell 2 _ rfl
 have yH2 := ZH.frozen 2
 have zH3 := ZH.cell 3 _ rfl
 have yH3 := ZH.frozen 3
 clear ZH
 have LH := hid QQ.out.size
 have q44 := newA w43 (.cells #[.int .u64 (lim a 0), .int .u64 (lim a 1), .int .u64 (lim a 2), .int .u64 (lim a 3)] 24)
 have HHt := Has.new w43 24 #[.int .u64 (lim a 0), .int .u64 (lim a 1), .int .u64 (lim a 2), .int .u64 (lim a 3)]
 try simp only [World.size_alloc] at HHt
 have HH := hid HHt
 clear HHt
 replace HTB := hid (HTB.out.later q44)
 replace HA := hid (HA.out.later q44)
 replace HB := hid (HB.out.later q44)
 replace HU := hid (HU.out.later q44)
 replace HS := hid (HS.out.later q44)
 replace HD := hid (HD.out.later q44)
 replace HN := hid (HN.out.later q44)
 replace HM := hid (HM.out.later q44)
 replace HZ := hid (HZ.out.later q44)
 replace HY := hid (HY.out.later q44)
 replace QQ := hid (QQ.out.trans (q44.mono QQ.out.size))
 clear q44
 go_wp2_with fail
 clear zH0 yH0 zH1 yH1 zH2 yH2 zH3 yH3
 obtain ⟨V, hV⟩ : ∃ V, (w43.alloc (.cells #[.int .u64 (lim a 0), .int .u64 (lim a 1), .int .u64 (lim a 2), .int .u64 (lim a 3)] 24)) = V := ⟨_, rfl⟩
 rw [hV] at HTB HA HB HU HS HD HN HM HZ HY HH QQ ⊢
 clear hV
 have kU0 := fun x : Ext V => (HU.out.later x.below).cell 0 _ rfl
 have kU1 := fun x : Ext V => (HU.out.later x.below).cell 1 _ rfl
 have kA0 := fun x : Ext V => (HA.out.later x.below).cell 0 _ rfl
 have kA1 := fun x : Ext V => (HA.out.later x.below).cell 1 _ rfl
 have kA2 := fun x : Ext V => (HA.out.later x.below).cell 2 _ rfl
 have kA3 := fun x : Ext V => (HA.out.later x.below).cell 3 _ rfl
 have kD0 := fun x : Ext V => (HD.out.later x.below).cell 0 _ rfl
 have kD1 := fun x : Ext V => (HD.out.later x.below).cell 1 _ rfl
 have kD2 := fun x : Ext V => (HD.out.later x.below).cell 2 _ rfl
 have kD3 := fun x : Ext V => (HD.out.later x.below).cell 3 _ rfl
 have kM0 := fun x : Ext V => (HM.out.later x.below).cell 0 _ rfl
 have kM1 := fun x : Ext V => (HM.out.later x.below).cell 1 _ rfl
 have kM2 := fun x : Ext V => (HM.out.later x.below).cell 2 _ rfl
 have kM3 := fun x : Ext V => (HM.out.later x.below).cell 3 _ rfl
 have kY0 := fun x : Ext V => (HY.out.later x.below).cell 0 _ rfl
 have kY1 := fun x : Ext V => (HY.out.later x.below).cell 1 _ rfl
 have kY2 := fun x : Ext V => (HY.out.later x.below).cell 2 _ rfl
 have kY3 := fun x : Ext V => (HY.out.later x.below).cell 3 _ rfl
 have kH0 := fun x : Ext V => (HH.out.later x.below).cell 0 _ rfl
 have kH1 := fun x : Ext V => (HH.out.later x.below).cell 1 _ rfl
 have kH2 := fun x : Ext V => (HH.out.later x.below).cell 2 _ rfl
 have kH3 := fun x : Ext V => (HH.out.later x.below).cell 3 _ rfl
 have HAY := hid (show (!lim a 0 == 0 || !lim a 1 == 0 || !lim a 2 == 0 || !lim a 3 == 0) = true by
  have h := HAZ.out
  revert h
  cases (lim a 0 == 0) <;> cases (lim a 1 == 0) <;> cases (lim a 2 == 0) <;> cases (lim a 3 == 0) <;> decide)
 try simp only [List.append]
 refine wp_region_quick (C := Grows V) (by kernel_rfl) (by kernel_rfl) (by kernel_rfl) (grows_refl V) ?_
 repeat (go_big_quiet_step (fail))
 rw [HAY.out]
 repeat (go_big_quiet_step (fail))
 refine wpQuiet_nil ?_
 rintro _ ⟨x, rfl⟩
 go_wp2
 go_ret
 exact ⟨rfl, QQ.out.trans (x.below.mono QQ.out.size)⟩
theorem not_not (a : Nat) : (a ^^^ M1) ^^^ M1 = a := by rw [Nat.xor_assoc, Nat.xor_self, Nat.xor_zero]
theorem ways_sub (a b : Nat) (ha : W256 a) (hb : W256 b) : wsub (wmod (b + a)) b = a := by
 unfold wsub wmod
 unfold W256 at ha hb
 omega
theorem tru_wv (b : Bool) : wv (truN b) = .agg #[.int .u64 (if b = true then 1 else 0), .int .u64 0, .int .u64 0, .int .u64 0] := by
 cases b
 ·exact zero_cells
 ·exact one_cells
theorem zero_sames (a : Nat) (ha : W256 a) : (lim a 0 == 0 && lim a 1 == 0 && lim a 2 == 0 && lim a 3 == 0) = decide (a = 0) := by
 have h1 := lim_same a 0 ha (by unfold W256; omega)
 exact h1
theorem less_tri (a b : Nat) (_ha : W256 a) (hb : W256 b) : (lessN a b = true ∧ lessN b a = false ∧ a ≠ b) ∨ (lessN a b = false ∧ lessN b a = true ∧ a ≠ b) ∨ (lessN a b = false ∧ lessN b a = false ∧ a = b) := by
 unfold lessN
 rw [wcmp_negC, wcmp_negC]
 have hx : a ^^^ S1 = b ^^^ S1 → a = b := fun h => by
  have := congrArg (· ^^^ S1) h
  simpa [Nat.xor_assoc] using this
 rcases Nat.lt_trichotomy (a ^^^ S1) (b ^^^ S1) with h | h | h
 ·exact .inl ⟨by simpa using h, by simp; omega, fun e => by subst e; omega⟩
 ·exact .inr (.inr ⟨by simp; omega, by simp; omega, hx h⟩)
 ·exact .inr (.inl ⟨by simp; omega, by simpa using h, fun e => by subst e; omega⟩)
theorem computeWays_any (W : World) (hT : Tab W) (a b : Nat) (ha : W256 a) (hb : W256 b) : Calls Tryz.prog 5 #[wv a, wv b] W fun e w' => e = .returned (.bool true) ∧ Below W.heap.size W w' := by
 have h1 : TopIs 1 [a, b] (wmod (b + a)) := top_two 1 b a (by decide) (by decide)
 have h2 : TopIs 3 [b, wmod (b + a)] a := by
  have := top_two 3 (wmod (b + a)) b (by decide) (by decide)
  rw [show twoN 3 (wmod (b + a)) b = wsub (wmod (b + a)) b from rfl, ways_sub a b ha hb] at this
  exact this
 have h3 : TopIs 25 [a] (a ^^^ M1) := top_one 25 a (by decide) (by decide)
 have h4 : TopIs 25 [a ^^^ M1] a := by
  have := top_one 25 (a ^^^ M1) (by decide) (by decide)
  rw [show oneN 25 (a ^^^ M1) = (a ^^^ M1) ^^^ M1 from rfl, not_not] at this
  exact this
 have h5 : TopIs 21 [a] (truN (decide (a = 0))) := top_one 21 a (by decide) (by decide)
 have h6 : TopIs 21 [truN (decide (a = 0))] (truN (decide (truN (decide (a = 0)) = 0))) := top_one 21 _ (by decide) (by decide)
 have h7 : TopIs 27 [a, 0] a := by
  have := top_two 27 0 a (by decide) (by decide)
  rw [show twoN 27 0 a = wmod (a * 2 ^ 0) from rfl, Nat.pow_zero, Nat.mul_one, show wmod a = a from Nat.mod_eq_of_lt ha] at this
  exact this
 have g0 : TopIs 16 [b, a] (truN (decide (a < b))) := top_two 16 a b (by decide) (by decide)
 have g1 : TopIs 17 [b, a] (truN (decide (b < a))) := top_two 17 a b (by decide) (by decide)
 have g2 : TopIs 20 [b, a] (truN (decide (a = b))) := top_two 20 a b (by decide) (by decide)
 have g3 : TopIs 18 [b, a] (truN (lessN a b)) := top_two 18 a b (by decide) (by decide)
 have g4 : TopIs 19 [b, a] (truN (lessN b a)) := top_two 19 a b (by decide) (by decide)
 have tri : (decide (a < b) = true ∧ decide (b < a) = false ∧ decide (a = b) = false) ∨ (decide (a < b) = false ∧ decide (b < a) = true ∧ decide (a = b) = false) ∨ (decide (a < b) = false ∧ decide (b < a) = false ∧ decide (a = b) = true) := by
  rcases Nat.lt_trichotomy a b with h | h | h
  ·exact .inl ⟨by simpa using h, by simp; omega, by simp; omega⟩
  ·exact .inr (.inr ⟨by simp; omega, by simp; omega, by simpa using h⟩)
  ·exact .inr (.inl ⟨by simp; omega, by simpa using h, by simp; omega⟩)
 have tri2 := less_tri a b ha hb
 obtain ⟨b0, hb0⟩ : ∃ x, decide (a < b) = x := ⟨_, rfl⟩
 obtain ⟨b1, hb1⟩ : ∃ x, decide (b < a) = x := ⟨_, rfl⟩
 obtain ⟨b2, hb2⟩ : ∃ x, decide (a = b) = x := ⟨_, rfl⟩
 obtain ⟨b3, hb3⟩ : ∃ x, lessN a b = x := ⟨_, rfl⟩
 obtain ⟨b4, hb4⟩ : ∃ x, lessN b a = x := ⟨_, rfl⟩
 have tri3 : (b3 = true ∧ b4 = false ∧ b2 = false) ∨ (b3 = false ∧ b4 = true ∧ b2 = false) ∨ (b3 = false ∧ b4 = false ∧ b2 = true) := by
  rw [← hb2, ← hb3, ← hb4]
  rcases tri2 with ⟨h1, h2, h3⟩ | ⟨h1, h2, h3⟩ | ⟨h1, h2, h3⟩
  ·exact .inl ⟨h1, h2, by simpa using h3⟩
  ·exact .inr (.inl ⟨h1, h2, by simpa using h3⟩)
  ·exact .inr (.inr ⟨h1, h2, by simpa using h3⟩)
 rw [hb0, hb1, hb2] at tri
 rw [hb0] at g0
 rw [hb1] at g1
 rw [hb2] at g2
 rw [hb3] at g3
 rw [hb4] at g4
 clear hb0 hb1 hb2 hb3 hb4 tri2
 let bs : Nat → Bool := fun i => if i = 0 then b0 else if i = 1 then b1 else if i = 2 then b2 else if i = 3 then b3 else if i = 4 then b4 else b2
 let yv : Bool → Int := fun x => if x = true then 1 else 0
 have hr : ∀ i, i < 6 → wv (truN (bs i)) = .agg #[.int .u64 (yv (bs i)), .int .u64 0, .int .u64 0, .int .u64 0] := fun i _ => tru_wv _
 have ny : ∀ x, ¬ yv x > 1 := fun x => by cases x <;> decide
 have wy : ∀ x, IntKind.u64.wrap (yv x) = yv x := fun x => by cases x <;> decide
 have s1 : IntKind.u64.wrap (IntKind.u64.wrap (yv b0 + yv b1) + yv b2) = 1 := by rcases tri with ⟨rfl, rfl, rfl⟩ | ⟨rfl, rfl, rfl⟩ | ⟨rfl, rfl, rfl⟩ <;> decide
 have s2 : IntKind.u64.wrap (IntKind.u64.wrap (yv b3 + yv b4) + yv b2) = 1 := by rcases tri3 with ⟨rfl, rfl, rfl⟩ | ⟨rfl, rfl, rfl⟩ | ⟨rfl, rfl, rfl⟩ <;> decide
 by_cases hz : a = 0
 ·rw [show decide (a = 0) = true by simpa using hz] at h5 h6
  exact ways_z W hT a b _ _ _ ha hb (fun i => truN (bs i)) (fun i => yv (bs i)) _ _ hr g0 g1 g2 g3 g4 g2 (ny _) (ny _) (ny _) (ny _) (ny _) (ny _) (wy _) rfl s1 (wy _) rfl s2 h1 h2 h3 h4 h5 h6 h7 (by rw [zero_sames a ha]; simpa using hz)
 ·rw [show decide (a = 0) = false by simpa using hz] at h5 h6
  exact ways_n W hT a b _ _ _ ha hb (fun i => truN (bs i)) (fun i => yv (bs i)) _ _ hr g0 g1 g2 g3 g4 g2 (ny _) (ny _) (ny _) (ny _) (ny _) (ny _) (wy _) rfl s1 (wy _) rfl s2 h1 h2 h3 h4 h5 h6 h7 (by rw [zero_sames a ha]; simpa using hz)
end Go.Proofs.YtnkhmgmganejmaaGreatDoor
