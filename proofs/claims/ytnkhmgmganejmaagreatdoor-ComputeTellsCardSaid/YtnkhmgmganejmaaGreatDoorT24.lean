/- Part. -/
import Derived.Test.YtnkhmgmganejmaaGreatDoorT23
import Derived.Test.YtnkhmgmganejmaaGreatDoorT06
import Derived.Test.YtnkhmgmganejmaaGreatDoorT21
import Derived.Test.YtnkhmgmganejmaaGreatDoorT08
set_option maxRecDepth 100000
set_option maxHeartbeats 16000000
namespace Go.Proofs.YtnkhmgmganejmaaGreatDoor
section
open Go Go.RowKit
attribute [local go_sem] Oper.semAt_some Grows
theorem refShl_walk (p a r : Nat) (n : Int) (h1 : Ret Tryz.prog 84 #[.agg #[.int .u64 (lim p 0), .int .u64 (lim p 1), .int .u64 (lim p 2), .int .u64 (lim p 3)], .int .i64 256] (.int .i64 n)) (h2 : Ret Tryz.prog 88 #[.agg #[.int .u64 (lim a 0), .int .u64 (lim a 1), .int .u64 (lim a 2), .int .u64 (lim a 3)], .int .i64 n, .int .i64 0] (.agg #[.int .u64 (lim r 0), .int .u64 (lim r 1), .int .u64 (lim r 2), .int .u64 (lim r 3)])) (hn : 0 ≤ n ∧ n ≤ 256) :
  Ret Tryz.prog 56 #[.agg #[.int .u64 (lim p 0), .int .u64 (lim p 1), .int .u64 (lim p 2), .int .u64 (lim p 3)], .agg #[.int .u64 (lim a 0), .int .u64 (lim a 1), .int .u64 (lim a 2), .int .u64 (lim a 3)]] (.agg #[.int .u64 (lim r 0), .int .u64 (lim r 1), .int .u64 (lim r 2), .int .u64 (lim r 3)]) := by
 intro w
 have Hh1 := hid h1
 have Hh2 := hid h2
 clear h1 h2
 obtain ⟨hn0, hn1⟩ := hn
 go_enter Tryz.func56, Tryz.ntmps56
 obtain ⟨⟨⟨k13, k14, k15, k16⟩, ⟨k17, k18, k19, k20⟩, ⟨k21, k22, k23, k24⟩⟩, W1, hW1, LX, LY, LR, Q⟩ := pwwz w 24 (lim p) (lim a)
 go_wp2_with fail
 clear k13 k14 k15 k16 k17 k18 k19 k20 k21 k22 k23 k24
 rw [hW1.out]
 clear hW1
 obtain ⟨k25, k26, k27, k28⟩ := e4 LX
 obtain ⟨k29, k30, k31, k32⟩ := e4 LY
 obtain ⟨k33, k34, k35, k36⟩ := e4 LR
 have hmx : Tryz.prog.follows .mixedOrders = true := by kernel_rfl
 refine wp_region_mix (C := Grows W1) [some true, some true, some true, some true, none] hmx (by kernel_rfl) (by kernel_rfl) (grows_refl W1) ?_
 simp only [headOf, tailOf]
 repeat (go_big_quiet_step (first | (with_reducible exact Ret.at Hh1.out _) | (with_reducible exact Ret.at Hh2.out _)))
 refine wpQuiet_nil ?_
 rintro _ ⟨x37, rfl⟩
 clear k25 k26 k27 k28 k29 k30 k31 k32 k33 k34 k35 k36
 have LR := LR.later x37.below
 have Q := Q.trans (x37.below.mono Q.size)
 obtain ⟨r0, r1, r2, r3⟩ := c4 LR
 obtain ⟨z0, z1, z2, z3⟩ := f4 LR
 have HR := hid ((s4 LR (lim r)))
 have HQ := hid ((q4 (w.heap.size + 1 + 1) Q (by omega) (lim r)))
 clear Q LX LY LR
 go_wp2
 rw [calmPost_normal]
 go_wp2
 refine bodyPost_ret (results_word (m := lim r) rfl rfl HR.out) rfl ⟨rfl, HQ.out⟩
theorem refShr_walk (p a r : Nat) (n : Int) (h1 : Ret Tryz.prog 84 #[.agg #[.int .u64 (lim p 0), .int .u64 (lim p 1), .int .u64 (lim p 2), .int .u64 (lim p 3)], .int .i64 256] (.int .i64 n)) (h2 : Ret Tryz.prog 88 #[.agg #[.int .u64 (lim a 0), .int .u64 (lim a 1), .int .u64 (lim a 2), .int .u64 (lim a 3)], .int .i64 (-n), .int .i64 0] (.agg #[.int .u64 (lim r 0), .int .u64 (lim r 1), .int .u64 (lim r 2), .int .u64 (lim r 3)])) (hn : 0 ≤ n ∧ n ≤ 256) :
  Ret Tryz.prog 57 #[.agg #[.int .u64 (lim p 0), .int .u64 (lim p 1), .int .u64 (lim p 2), .int .u64 (lim p 3)], .agg #[.int .u64 (lim a 0), .int .u64 (lim a 1), .int .u64 (lim a 2), .int .u64 (lim a 3)]] (.agg #[.int .u64 (lim r 0), .int .u64 (lim r 1), .int .u64 (lim r 2), .int .u64 (lim r 3)]) := by
 intro w
 have Hh1 := hid h1
 have Hh2 := hid h2
 clear h1 h2
 obtain ⟨hn0, hn1⟩ := hn
 go_enter Tryz.func57, Tryz.ntmps57
 obtain ⟨⟨⟨k13, k14, k15, k16⟩, ⟨k17, k18, k19, k20⟩, ⟨k21, k22, k23, k24⟩⟩, W1, hW1, LX, LY, LR, Q⟩ := pwwz w 24 (lim p) (lim a)
 go_wp2_with fail
 clear k13 k14 k15 k16 k17 k18 k19 k20 k21 k22 k23 k24
 rw [hW1.out]
 clear hW1
 obtain ⟨k25, k26, k27, k28⟩ := e4 LX
 obtain ⟨k29, k30, k31, k32⟩ := e4 LY
 obtain ⟨k33, k34, k35, k36⟩ := e4 LR
 have hmx : Tryz.prog.follows .mixedOrders = true := by kernel_rfl
 refine wp_region_mix (C := Grows W1) [some true, some true, some true, some true, some true, none] hmx (by kernel_rfl) (by kernel_rfl) (grows_refl W1) ?_
 simp only [headOf, tailOf]
 repeat (go_big_quiet_step (first | (with_reducible exact Ret.at Hh1.out _) | (with_reducible exact Ret.at Hh2.out _)))
 refine wpQuiet_nil ?_
 rintro _ ⟨x37, rfl⟩
 clear k25 k26 k27 k28 k29 k30 k31 k32 k33 k34 k35 k36
 have LR := LR.later x37.below
 have Q := Q.trans (x37.below.mono Q.size)
 obtain ⟨r0, r1, r2, r3⟩ := c4 LR
 obtain ⟨z0, z1, z2, z3⟩ := f4 LR
 have HR := hid ((s4 LR (lim r)))
 have HQ := hid ((q4 (w.heap.size + 1 + 1) Q (by omega) (lim r)))
 clear Q LX LY LR
 go_wp2
 rw [calmPost_normal]
 go_wp2
 refine bodyPost_ret (results_word (m := lim r) rfl rfl HR.out) rfl ⟨rfl, HQ.out⟩
theorem refByte_far (p a : Nat) (h1 : Ret Tryz.prog 84 #[.agg #[.int .u64 (lim p 0), .int .u64 (lim p 1), .int .u64 (lim p 2), .int .u64 (lim p 3)], .int .i64 32] (.int .i64 32)) :
  Ret Tryz.prog 55 #[.agg #[.int .u64 (lim p 0), .int .u64 (lim p 1), .int .u64 (lim p 2), .int .u64 (lim p 3)], .agg #[.int .u64 (lim a 0), .int .u64 (lim a 1), .int .u64 (lim a 2), .int .u64 (lim a 3)]] (.agg #[.int .u64 0, .int .u64 0, .int .u64 0, .int .u64 0]) := by
 intro w
 have Hh1 := hid h1
 clear h1
 go_enter Tryz.func55, Tryz.ntmps55
 obtain ⟨⟨⟨k13, k14, k15, k16⟩, ⟨k17, k18, k19, k20⟩, ⟨k21, k22, k23, k24⟩⟩, W1, hW1, LX, LY, LR, Q⟩ := pwwz w 24 (lim p) (lim a)
 go_wp2_with fail
 clear k13 k14 k15 k16 k17 k18 k19 k20 k21 k22 k23 k24
 rw [hW1.out]
 clear hW1
 refine (Hh1.out _).mono ?_
 rintro e v25 ⟨rfl, q⟩
 have LX := LX.later q
 have LY := LY.later q
 have LR := LR.later q
 have Q := Q.trans (q.mono Q.size)
 clear q
 obtain ⟨r0, r1, r2, r3⟩ := c4 LR
 obtain ⟨z0, z1, z2, z3⟩ := f4 LR
 obtain ⟨k26, k27, k28, k29⟩ := c4 LX
 obtain ⟨k30, k31, k32, k33⟩ := c4 LY
 have HR := hid (((((LR.set 0 (.int .u64 0)).set 1 (.int .u64 0)).set 2 (.int .u64 0)).set 3 (.int .u64 0)))
 have HQ := hid (((((Q.setCell (p := ⟨w.heap.size + 1 + 1, 0, none⟩) (show w.heap.size ≤ _ by simp; first | done | omega) (.int .u64 0)).setCell (p := ⟨w.heap.size + 1 + 1, 1, none⟩) (show w.heap.size ≤ _ by simp; first | done | omega) (.int .u64 0)).setCell (p := ⟨w.heap.size + 1 + 1, 2, none⟩) (show w.heap.size ≤ _ by simp; first | done | omega) (.int .u64 0)).setCell (p := ⟨w.heap.size + 1 + 1, 3, none⟩) (show w.heap.size ≤ _ by simp; first | done | omega) (.int .u64 0)))
 clear Q LX LY LR
 go_wp2
 refine bodyPost_ret (results_word (m := fun _ => 0) rfl rfl HR.out) rfl ⟨rfl, HQ.out⟩
theorem refByte_in (p a r : Nat) (s : ByteArray) (n v : Int) (h1 : Ret Tryz.prog 84 #[.agg #[.int .u64 (lim p 0), .int .u64 (lim p 1), .int .u64 (lim p 2), .int .u64 (lim p 3)], .int .i64 32] (.int .i64 n)) (h2 : Ret Tryz.prog 87 #[.agg #[.int .u64 (lim a 0), .int .u64 (lim a 1), .int .u64 (lim a 2), .int .u64 (lim a 3)]] (.string s)) (hx : ∀ W, (Instr.index 9 (.string s) (.int .i64 n)).run Tryz.prog W = .ok (.int .u8 v) W) (hn : 0 ≤ n ∧ n < 32) (hv : 0 ≤ v ∧ v < 256) (h3 : Ret Tryz.prog 10 #[.int .i64 v] (.agg #[.int .u64 (lim r 0), .int .u64 (lim r 1), .int .u64 (lim r 2), .int .u64 (lim r 3)])) :
  Ret Tryz.prog 55 #[.agg #[.int .u64 (lim p 0), .int .u64 (lim p 1), .int .u64 (lim p 2), .int .u64 (lim p 3)], .agg #[.int .u64 (lim a 0), .int .u64 (lim a 1), .int .u64 (lim a 2), .int .u64 (lim a 3)]] (.agg #[.int .u64 (lim r 0), .int .u64 (lim r 1), .int .u64 (lim r 2), .int .u64 (lim r 3)]) := by
 intro w
 have Hh1 := hid h1
 have Hh2 := hid h2
 have Hh3 := hid h3
 clear h1 h2 h3
 obtain ⟨hn0, hn1⟩ := hn
 obtain ⟨hv0, hv1⟩ := hv
 have hne : ¬ n = 32 := by omega
 go_enter Tryz.func55, Tryz.ntmps55
 obtain ⟨⟨⟨k13, k14, k15, k16⟩, ⟨k17, k18, k19, k20⟩, ⟨k21, k22, k23, k24⟩⟩, W1, hW1, LX, LY, LR, Q⟩ := pwwz w 24 (lim p) (lim a)
 go_wp2_with fail
 clear k13 k14 k15 k16 k17 k18 k19 k20 k21 k22 k23 k24
 rw [hW1.out]
 clear hW1
 refine (Hh1.out _).mono ?_
 rintro e v25 ⟨rfl, q⟩
 have LX := LX.later q
 have LY := LY.later q
 have LR := LR.later q
 have Q := Q.trans (q.mono Q.size)
 clear q
 obtain ⟨k26, k27, k28, k29⟩ := c4 LX
 obtain ⟨k30, k31, k32, k33⟩ := c4 LY
 obtain ⟨k34, k35, k36, k37⟩ := c4 LR
 go_wp2_with fail
 clear k26 k27 k28 k29 k30 k31 k32 k33 k34 k35 k36 k37
 refine (Hh2.out _).mono ?_
 rintro e v38 ⟨rfl, q⟩
 have LX := LX.later q
 have LY := LY.later q
 have LR := LR.later q
 have Q := Q.trans (q.mono Q.size)
 clear q
 obtain ⟨k39, k40, k41, k42⟩ := c4 LX
 obtain ⟨k43, k44, k45, k46⟩ := c4 LY
 obtain ⟨k47, k48, k49, k50⟩ := c4 LR
 go_wp2_with fail
 clear k39 k40 k41 k42 k43 k44 k45 k46 k47 k48 k49 k50
 refine (Hh3.out _).mono ?_
 rintro e v51 ⟨rfl, q⟩
 have LX := LX.later q
 have LY := LY.later q
 have LR := LR.later q
 have Q := Q.trans (q.mono Q.size)
 clear q
 obtain ⟨r0, r1, r2, r3⟩ := c4 LR
 obtain ⟨z0, z1, z2, z3⟩ := f4 LR
 obtain ⟨k52, k53, k54, k55⟩ := c4 LX
 obtain ⟨k56, k57, k58, k59⟩ := c4 LY
 have HR := hid ((s4 LR (lim r)))
 have HQ := hid ((q4 (w.heap.size + 1 + 1) Q (by omega) (lim r)))
 clear Q LX LY LR
 go_wp2
 refine bodyPost_ret (results_word (m := lim r) rfl rfl HR.out) rfl ⟨rfl, HQ.out⟩
theorem refSar_walk (p a r : Nat) (n : Int) (h1 : Ret Tryz.prog 84 #[.agg #[.int .u64 (lim p 0), .int .u64 (lim p 1), .int .u64 (lim p 2), .int .u64 (lim p 3)], .int .i64 256] (.int .i64 n)) (h2 : Ret Tryz.prog 88 #[.agg #[.int .u64 (lim a 0), .int .u64 (lim a 1), .int .u64 (lim a 2), .int .u64 (lim a 3)], .int .i64 (-n), .int .i64 (bt a 255 : Int)] (.agg #[.int .u64 (lim r 0), .int .u64 (lim r 1), .int .u64 (lim r 2), .int .u64 (lim r 3)])) (hn : 0 ≤ n ∧ n ≤ 256) :
  Ret Tryz.prog 58 #[.agg #[.int .u64 (lim p 0), .int .u64 (lim p 1), .int .u64 (lim p 2), .int .u64 (lim p 3)], .agg #[.int .u64 (lim a 0), .int .u64 (lim a 1), .int .u64 (lim a 2), .int .u64 (lim a 3)]] (.agg #[.int .u64 (lim r 0), .int .u64 (lim r 1), .int .u64 (lim r 2), .int .u64 (lim r 3)]) := by
 intro w
 have Hh1 := hid h1
 have Hh2 := hid h2
 clear h1 h2
 obtain ⟨hn0, hn1⟩ := hn
 have HB := hid (bits_any a)
 unfold wv at HB
 go_enter Tryz.func58, Tryz.ntmps58
 have LX := Has.new w 24 (w4 (lim p))
 obtain ⟨k1, k2, k3, k4⟩ := c4 LX
 have LX := LX.alloc (.cells (w4 (lim a)) 24)
 have LY := Has.new (w.alloc (.cells (w4 (lim p)) 24)) 24 (w4 (lim a))
 simp only [World.size_alloc] at LY
 obtain ⟨k5, k6, k7, k8⟩ := c4 LX
 obtain ⟨k9, k10, k11, k12⟩ := c4 LY
 have LX := LX.alloc (.cells z4 24)
 have LY := LY.alloc (.cells z4 24)
 have LR := Has.new ((w.alloc (.cells (w4 (lim p)) 24)).alloc (.cells (w4 (lim a)) 24)) 24 z4
 simp only [World.size_alloc] at LR
 obtain ⟨k13, k14, k15, k16⟩ := c4 LX
 obtain ⟨k17, k18, k19, k20⟩ := c4 LY
 obtain ⟨k21, k22, k23, k24⟩ := c4 LR
 have Q := (Below.refl w.heap.size w)
 have Q := Q.alloc Q.size (.cells (w4 (lim p)) 24)
 have Q := Q.alloc Q.size (.cells (w4 (lim a)) 24)
 have Q := Q.alloc Q.size (.cells z4 24)
 go_wp2
 clear k1 k2 k3 k4 k5 k6 k7 k8 k9 k10 k11 k12 k13 k14 k15 k16 k17 k18 k19 k20 k21 k22 k23 k24
 obtain ⟨W1, hW1⟩ : ∃ W1, (((w.alloc (.cells (w4 (lim p)) 24)).alloc (.cells (w4 (lim a)) 24)).alloc (.cells z4 24)) = W1 := ⟨_, rfl⟩
 rw [hW1] at LX LY LR Q ⊢
 clear hW1
 have hRw := LR.lt
 refine wp_region_ghost [some (.agg #[.int .u64 (lim a 0), .int .u64 (lim a 1), .int .u64 (lim a 2), .int .u64 (lim a 3)]), some (.agg #[.int .u64 (lim p 0), .int .u64 (lim p 1), .int .u64 (lim p 2), .int .u64 (lim p 3)]), some (.int .i64 n), some (.int .i64 (-n)), some (.agg #[.int .u64 (lim a 0), .int .u64 (lim a 1), .int .u64 (lim a 2), .int .u64 (lim a 3)]), none, none, some (.int .i64 (bt a 255 : Int)), some (.agg #[.int .u64 (lim r 0), .int .u64 (lim r 1), .int .u64 (lim r 2), .int .u64 (lim r 3)]), none] [[], [], [1], [1, 2], [], [1, 2, 4], [1, 2, 4, 5], [1, 2, 4, 5, 6], [0, 1, 2, 3, 4, 5, 6, 7], [0, 1, 2, 3, 4, 5, 6, 7, 8]] (fun f g w' => Below w.heap.size w w' ∧ Has w' (w.heap.size) 24 #[.int .u64 (lim p 0), .int .u64 (lim p 1), .int .u64 (lim p 2), .int .u64 (lim p 3)] ∧ Has w' (w.heap.size + 1) 24 #[.int .u64 (lim a 0), .int .u64 (lim a 1), .int .u64 (lim a 2), .int .u64 (lim a 3)] ∧ Has w' (w.heap.size + 1 + 1) 24 (cellsIf (f 9) #[.int .u64 (lim r 0), .int .u64 (lim r 1), .int .u64 (lim r 2), .int .u64 (lim r 3)] #[.int .u64 0, .int .u64 0, .int .u64 0, .int .u64 0]) ∧ (f 5 = true → ∃ b cp, g 5 = .slice (some ⟨b, 0, none⟩) 256 cp ∧ w.heap.size + 1 + 1 < b ∧ IntsAt w' b 256 (fun j => (bt a j : Int))) ∧ (f 6 = true → ∃ b, g 6 = .pointer (some ⟨b, 255, none⟩) ∧ w.heap.size + 1 + 1 < b ∧ IntsAt w' b 256 (fun j => (bt a j : Int))))
  (by kernel_rfl) (by kernel_rfl) (by kernel_rfl) ?_ ?_ ?_ ?_
 ·rintro f g wa wb ⟨u1, u2, u3, u4, u5, u6⟩ hb
  exact ⟨u1.trans (hb.mono u1.size), u2.later hb, u3.later hb, u4.later hb, fun e => by obtain ⟨b, cp, e1, e2, e3⟩ := u5 e; exact ⟨b, cp, e1, e2, e3.later hb⟩, fun e => by obtain ⟨b, e1, e2, e3⟩ := u6 e; exact ⟨b, e1, e2, e3.later hb⟩⟩
 ·intro f f' g g' wa h
  have a5 := h 5 rfl
  have a6 := h 6 rfl
  have a9 := h 9 rfl
  simp only [a5.1, a5.2, a6.1, a6.2, a9.1]
  exact id
 ·exact ⟨Q.drew, LX, LY, LR, by simp, by simp⟩
 rintro f g y ⟨u1, u2, u3, u4, u5, u6⟩ Dn
 have hRy := u4.lt
 clear LX LY LR Q
 have x0 := u2.cell 0 _ rfl
 have y0 := u3.cell 0 _ rfl
 have x1 := u2.cell 1 _ rfl
 have y1 := u3.cell 1 _ rfl
 have x2 := u2.cell 2 _ rfl
 have y2 := u3.cell 2 _ rfl
 have x3 := u2.cell 3 _ rfl
 have y3 := u3.cell 3 _ rfl
 refine GW.known _ rfl (fun hd hf => ?_) ?_
 ·go_wp2
  exact ⟨rfl, rfl, Below.refl _ _⟩
 simp only [Act.put, sT, sS, sZ]
 refine GW.known _ rfl (fun hd hf => ?_) ?_
 ·go_wp2
  exact ⟨rfl, rfl, Below.refl _ _⟩
 simp only [Act.put, sT, sS, sZ]
 refine GW.known _ rfl (fun hd hf => ?_) ?_
 ·go_wp2_with fail
  refine (Hh1.out _).mono ?_
  rintro e u ⟨rfl, hb⟩
  go_wp2
  exact ⟨rfl, rfl, hb⟩
 simp only [Act.put, sT, sS, sZ]
 refine GW.known _ rfl (fun hd hf => ?_) ?_
 ·go_wp2
  exact ⟨rfl, rfl, Below.refl _ _⟩
 simp only [Act.put, sT, sS, sZ]
 refine GW.known _ rfl (fun hd hf => ?_) ?_
 ·go_wp2
  exact ⟨rfl, rfl, Below.refl _ _⟩
 simp only [Act.put, sT, sS, sZ]
 refine GW.open rfl (fun hd hf => ?_) ?_
 ·go_wp2_with fail
  refine (HB.out _).mono ?_
  rintro e u ⟨b, cp, rfl, hg, hI, hb⟩
  go_wp2
  refine ⟨rfl, u1.trans (hb.mono u1.size), u2.later hb, u3.later hb, ?_, fun _ => ⟨b, cp, upd_self g 5 _, by omega, hI⟩, fun e => ?_⟩
  ·rw [upd_ne f true (show (9 : Nat) ≠ 5 by decide)]; exact u4.later hb
  ·rw [upd_ne f true (show (6 : Nat) ≠ 5 by decide)] at e
   obtain ⟨b', e1, e2, e3⟩ := u6 e
   exact ⟨b', (upd_ne g _ (show (6 : Nat) ≠ 5 by decide)).trans e1, e2, e3.later hb⟩
 simp only [Act.put, sT, sS, sZ]
 refine GW.open rfl (fun hd hf => ?_) ?_
 ·obtain ⟨b, cp, e1, e2, e3⟩ := u5 (hd 5 (by decide))
  rw [e1]
  go_wp2
  refine ⟨rfl, u1, u2, u3, ?_, fun e => ?_, fun _ => ⟨b, upd_self g 6 _, e2, e3⟩⟩
  ·rw [upd_ne f true (show (9 : Nat) ≠ 6 by decide)]; exact u4
  ·exact ⟨b, cp, (upd_ne g _ (show (5 : Nat) ≠ 6 by decide)).trans e1, e2, e3⟩
 simp only [Act.put, sT, sS, sZ]
 refine GW.known _ rfl (fun hd hf => ?_) ?_
 ·obtain ⟨b, e1, e2, e3⟩ := u6 (hd 6 (by decide))
  rw [e1]
  have c255 : y.cell? ⟨b, 255, none⟩ = some (.int .i64 (bt a 255 : Int)) := e3.cell (by omega)
  go_wp2
  exact ⟨rfl, rfl, Below.refl _ _⟩
 simp only [Act.put, sT, sS, sZ]
 refine GW.known _ rfl (fun hd hf => ?_) ?_
 ·go_wp2_with fail
  refine (Hh2.out _).mono ?_
  rintro e u ⟨rfl, hb⟩
  go_wp2
  exact ⟨rfl, rfl, hb⟩
 simp only [Act.put, sT, sS, sZ]
 refine GW.open rfl (fun hd hf => ?_) ?_
 ·rw [hf, cellsIf_false] at u4
  obtain ⟨c0, c1, c2, c3⟩ := c4 u4
  obtain ⟨z0, z1, z2, z3⟩ := f4 u4
  go_wp2
  refine ⟨rfl, (q4 (w.heap.size + 1 + 1) u1 (show w.heap.size ≤ w.heap.size + 1 + 1 by omega) (lim r)), ((((u2.other (p := ⟨w.heap.size + 1 + 1, 0, none⟩) (show w.heap.size ≠ w.heap.size + 1 + 1 by omega) (.int .u64 (lim r 0))).other (p := ⟨w.heap.size + 1 + 1, 1, none⟩) (show w.heap.size ≠ w.heap.size + 1 + 1 by omega) (.int .u64 (lim r 1))).other (p := ⟨w.heap.size + 1 + 1, 2, none⟩) (show w.heap.size ≠ w.heap.size + 1 + 1 by omega) (.int .u64 (lim r 2))).other (p := ⟨w.heap.size + 1 + 1, 3, none⟩) (show w.heap.size ≠ w.heap.size + 1 + 1 by omega) (.int .u64 (lim r 3))), ((((u3.other (p := ⟨w.heap.size + 1 + 1, 0, none⟩) (show w.heap.size + 1 ≠ w.heap.size + 1 + 1 by omega) (.int .u64 (lim r 0))).other (p := ⟨w.heap.size + 1 + 1, 1, none⟩) (show w.heap.size + 1 ≠ w.heap.size + 1 + 1 by omega) (.int .u64 (lim r 1))).other (p := ⟨w.heap.size + 1 + 1, 2, none⟩) (show w.heap.size + 1 ≠ w.heap.size + 1 + 1 by omega) (.int .u64 (lim r 2))).other (p := ⟨w.heap.size + 1 + 1, 3, none⟩) (show w.heap.size + 1 ≠ w.heap.size + 1 + 1 by omega) (.int .u64 (lim r 3))), ?_, fun e => ?_, fun e => ?_⟩
  ·rw [upd_self, cellsIf_true]
   exact (s4 u4 (lim r))
  ·rw [upd_ne f true (show (5 : Nat) ≠ 9 by decide)] at e
   obtain ⟨b, cp, e1, e2, e3⟩ := u5 e
   exact ⟨b, cp, (upd_ne g _ (show (5 : Nat) ≠ 9 by decide)).trans e1, e2, ((((e3.other (p := ⟨w.heap.size + 1 + 1, 0, none⟩) (show b ≠ w.heap.size + 1 + 1 by omega) (.int .u64 (lim r 0))).other (p := ⟨w.heap.size + 1 + 1, 1, none⟩) (show b ≠ w.heap.size + 1 + 1 by omega) (.int .u64 (lim r 1))).other (p := ⟨w.heap.size + 1 + 1, 2, none⟩) (show b ≠ w.heap.size + 1 + 1 by omega) (.int .u64 (lim r 2))).other (p := ⟨w.heap.size + 1 + 1, 3, none⟩) (show b ≠ w.heap.size + 1 + 1 by omega) (.int .u64 (lim r 3)))⟩
  ·rw [upd_ne f true (show (6 : Nat) ≠ 9 by decide)] at e
   obtain ⟨b, e1, e2, e3⟩ := u6 e
   exact ⟨b, (upd_ne g _ (show (6 : Nat) ≠ 9 by decide)).trans e1, e2, ((((e3.other (p := ⟨w.heap.size + 1 + 1, 0, none⟩) (show b ≠ w.heap.size + 1 + 1 by omega) (.int .u64 (lim r 0))).other (p := ⟨w.heap.size + 1 + 1, 1, none⟩) (show b ≠ w.heap.size + 1 + 1 by omega) (.int .u64 (lim r 1))).other (p := ⟨w.heap.size + 1 + 1, 2, none⟩) (show b ≠ w.heap.size + 1 + 1 by omega) (.int .u64 (lim r 2))).other (p := ⟨w.heap.size + 1 + 1, 3, none⟩) (show b ≠ w.heap.size + 1 + 1 by omega) (.int .u64 (lim r 3)))⟩
 simp only [Act.put, sT, sS, sZ]
 refine GW.nil (fun hall => ?_)
 rw [hall 9 (by omega), cellsIf_true] at u4
 go_wp2
 refine bodyPost_ret (results_word (m := lim r) rfl rfl u4) rfl ⟨rfl, u1⟩
def sgx (a p q k j : Nat) : Int := if p ≤ j ∧ j < k then (bt a q : Int) else (bt a j : Int)
theorem sgx_start (a p q j : Nat) : sgx a p q p j = (bt a j : Int) := if_neg (by omega)
theorem sgx_at (a p q k : Nat) (h : q < p) : sgx a p q k q = (bt a q : Int) := if_neg (by omega)
theorem sgx_step (a p q k : Nat) (h : p ≤ k) : (fun j => if j = k then (bt a q : Int) else sgx a p q k j) = sgx a p q (k + 1) := by
 funext j
 unfold sgx
 by_cases e : j = k
 ·subst e; rw [if_pos rfl, if_pos (by omega)]
 ·rw [if_neg e]
  by_cases e2 : p ≤ j ∧ j < k
  ·rw [if_pos e2, if_pos (by omega)]
  ·rw [if_neg e2, if_neg (by omega)]
theorem refSign_far (p a : Nat) (h1 : Ret Tryz.prog 84 #[.agg #[.int .u64 (lim p 0), .int .u64 (lim p 1), .int .u64 (lim p 2), .int .u64 (lim p 3)], .int .i64 31] (.int .i64 31)) :
  Ret Tryz.prog 47 #[.agg #[.int .u64 (lim p 0), .int .u64 (lim p 1), .int .u64 (lim p 2), .int .u64 (lim p 3)], .agg #[.int .u64 (lim a 0), .int .u64 (lim a 1), .int .u64 (lim a 2), .int .u64 (lim a 3)]] (.agg #[.int .u64 (lim a 0), .int .u64 (lim a 1), .int .u64 (lim a 2), .int .u64 (lim a 3)]) := by
 intro w
 have Hh1 := hid h1
 clear h1
 go_enter Tryz.func47, Tryz.ntmps47
 obtain ⟨⟨⟨k13, k14, k15, k16⟩, ⟨k17, k18, k19, k20⟩, ⟨k21, k22, k23, k24⟩⟩, W1, hW1, LX, LY, LR, Q⟩ := pwwz w 24 (lim p) (lim a)
 go_wp2_with fail
 clear k13 k14 k15 k16 k17 k18 k19 k20 k21 k22 k23 k24
 rw [hW1.out]
 clear hW1
 refine (Hh1.out _).mono ?_
 rintro e v25 ⟨rfl, q⟩
 have LX := LX.later q
 have LY := LY.later q
 have LR := LR.later q
 have Q := Q.trans (q.mono Q.size)
 clear q
 obtain ⟨r0, r1, r2, r3⟩ := c4 LR
 obtain ⟨z0, z1, z2, z3⟩ := f4 LR
 obtain ⟨k26, k27, k28, k29⟩ := c4 LX
 obtain ⟨k30, k31, k32, k33⟩ := c4 LY
 have HR := hid ((s4 LR (lim a)))
 have HQ := hid ((q4 (w.heap.size + 1 + 1) Q (by omega) (lim a)))
 clear Q LX LY LR
 go_wp2
 refine bodyPost_ret (results_word (m := lim a) rfl rfl HR.out) rfl ⟨rfl, HQ.out⟩
theorem refSign_in (p a R n : Nat) (h1 : Ret Tryz.prog 84 #[.agg #[.int .u64 (lim p 0), .int .u64 (lim p 1), .int .u64 (lim p 2), .int .u64 (lim p 3)], .int .i64 31] (.int .i64 (n : Int))) (hn : n < 31) (hR : W256 R) (hS : ∀ j, j < 256 → sgx a (8 * n + 8) (8 * n + 7) 256 j = (bt R j : Int)) :
  Ret Tryz.prog 47 #[.agg #[.int .u64 (lim p 0), .int .u64 (lim p 1), .int .u64 (lim p 2), .int .u64 (lim p 3)], .agg #[.int .u64 (lim a 0), .int .u64 (lim a 1), .int .u64 (lim a 2), .int .u64 (lim a 3)]] (.agg #[.int .u64 (lim R 0), .int .u64 (lim R 1), .int .u64 (lim R 2), .int .u64 (lim R 3)]) := by
 intro w
 have Hh1 := hid h1
 clear h1
 have HA := hid (bits_any a)
 have HF := hid (fromBits_any R hR)
 have HS := hid hS
 unfold wv at HA HF
 have hn0 : (0 : Int) ≤ (n : Int) := by omega
 have hn1 : (n : Int) < 31 := by omega
 have hne : ¬ (n : Int) = 31 := by omega
 obtain ⟨P, hP⟩ : ∃ P, 8 * n + 8 = P := ⟨_, rfl⟩
 obtain ⟨q, hq⟩ : ∃ q, 8 * n + 7 = q := ⟨_, rfl⟩
 rw [hP, hq] at HS
 have hpI : 8 * (n : Int) + 8 = (P : Int) := by omega
 have hqI : 8 * (n : Int) + 7 = (q : Int) := by omega
 have hq2 : q < P := by omega
 have hp2 : P ≤ 256 := by omega
 have hP0 : (0 : Int) ≤ (P : Int) := by omega
 have hP1 : (P : Int) ≤ 256 := by omega
 have hq0 : (0 : Int) ≤ (q : Int) := by omega
 have hq1 : (q : Int) < 256 := by omega
 have HPQ := hid (And.intro hq2 hp2)
 clear hR hS hP hq hn hq2 hp2
 go_enter Tryz.func47, Tryz.ntmps47
 obtain ⟨⟨⟨k13, k14, k15, k16⟩, ⟨k17, k18, k19, k20⟩, ⟨k21, k22, k23, k24⟩⟩, W1, hW1, LX, LY, LR, Q⟩ := pwwz w 24 (lim p) (lim a)
 go_wp2_with fail
 clear k13 k14 k15 k16 k17 k18 k19 k20 k21 k22 k23 k24
 rw [hW1.out]
 clear hW1
 refine (Hh1.out _).mono ?_
 rintro e v25 ⟨rfl, q⟩
 have LX := LX.later q
 have LY := LY.later q
 have LR := LR.later q
 have Q := Q.trans (q.mono Q.size)
 clear q
 clear LX
 obtain ⟨k26, k27, k28, k29⟩ := c4 LY
 obtain ⟨k30, k31, k32, k33⟩ := c4 LR
 go_wp2_with fail
 clear k26 k27 k28 k29 k30 k31 k32 k33
 have aR := LR.lt
 have aW := Q.size
 refine (HA.out _).mono ?_
 rintro e v34 ⟨g, cap, rfl, hg, hI, q⟩
 have LY := LY.later q
 have LR := LR.later q
 have Q := Q.trans (q.mono Q.size)
 clear q
 have gR : w.heap.size + 1 + 1 ≠ g := by omega
 have hwg : w.heap.size ≤ g := by omega
 clear hg HA LY aR aW
 go_wp2
 go_loopw [7] (fun i wr => ∃ k : Nat, P ≤ k ∧ k ≤ 256 ∧ i = .int .i64 (k : Int) ∧ IntsAt wr g 256 (sgx a P q k) ∧ Has wr (w.heap.size + 1 + 1) 24 #[.int .u64 0, .int .u64 0, .int .u64 0, .int .u64 0] ∧ Below w.heap.size w wr) (fun i _ => 256 - (intOf i).toNat)
 case atStart => exact ⟨P, Nat.le_refl _, HPQ.out.2, by simp [hpI], hI.congr (fun j _ => (sgx_start a P q j).symm), LR, Q⟩
 case round =>
  clear hI LR Q
  obtain ⟨k, hpk, hk, rfl, hI, LR, Q⟩ := hrel
  by_cases hlt : k < 256
  ·have hk0 : (0 : Int) ≤ (k : Int) := by omega
   have hk1 : (k : Int) < 256 := by omega
   have HK := hid (And.intro hpk hlt)
   have HV := hid (sgx_step a P q k hpk)
   have cq : wr.cell? ⟨g, q, none⟩ = some (.int .i64 (bt a q : Int)) := by rw [hI.cell (by have := HPQ.out; omega), sgx_at a P q k HPQ.out.1]
   have ck := hI.cell hlt
   have fk := hI.frozen k
   have N1 := hI.set hlt (bt a q : Int)
   rw [HV.out] at N1
   have N1 := hid N1
   have N2 := hid (LR.other (p := ⟨g, k, none⟩) gR (.int .i64 (bt a q : Int)))
   have N3 := hid (Q.setCell (p := ⟨g, k, none⟩) hwg (.int .i64 (bt a q : Int)))
   clear hI LR Q hk hpk hlt HF HS HV
   go_wp2
   go_roundw
   case rel => exact ⟨k + 1, by have := HK.out; omega, by have := HK.out; omega, by simp, N1.out, N2.out, N3.out⟩
   case measure => have := HK.out; simp [intOf]; omega
  ·obtain rfl : k = 256 := by omega
   have hI := hI.congr (fun j hj => HS.out j hj)
   clear hk hlt hpk HS
   go_wp2_with fail
   refine (HF.out _ _ _ hI).mono ?_
   rintro e v9 ⟨rfl, q⟩
   have LR := LR.later q
   have Q := Q.trans (q.mono Q.size)
   clear q hI HF
   obtain ⟨r0, r1, r2, r3⟩ := c4 LR
   obtain ⟨z0, z1, z2, z3⟩ := f4 LR
   have HR := hid ((s4 LR (lim R)))
   have HQ := hid ((q4 (w.heap.size + 1 + 1) Q (show w.heap.size ≤ w.heap.size + 1 + 1 by omega) (lim R)))
   clear Q LR
   go_wp2
   refine bodyPost_ret (results_word (m := lim R) rfl rfl HR.out) rfl ⟨rfl, HQ.out⟩
end
section
open Go Go.RowKit
theorem low_bits (n : Nat) : n % 2 = (n.testBit 0).toNat := by
 rw [Nat.testBit_zero]
 rcases Nat.mod_two_eq_zero_or_one n with h | h <;> rw [h] <;> rfl
theorem half_and (a b : Nat) : (a &&& b) / 2 = a / 2 &&& b / 2 ∧ (a ||| b) / 2 = a / 2 ||| b / 2 ∧ (a ^^^ b) / 2 = a / 2 ^^^ b / 2 := by
 refine ⟨Nat.eq_of_testBit_eq fun i => ?_, Nat.eq_of_testBit_eq fun i => ?_, Nat.eq_of_testBit_eq fun i => ?_⟩ <;>
  simp only [← Nat.testBit_succ, Nat.testBit_and, Nat.testBit_or, Nat.testBit_xor]
theorem xor_and_add (a : Nat) : ∀ b, (a ^^^ b) + 2 * (a &&& b) = a + b := by
 induction a using Nat.strongRecOn with
 | _ a ih =>
  intro b
  by_cases h : a = 0
  ·subst h; simp
  ·have hi := ih (a / 2) (by omega) (b / 2)
   obtain ⟨h1, _, h2⟩ := half_and a b
   rw [← h1, ← h2] at hi
   have l1 := low_bits (a &&& b)
   have l2 := low_bits (a ^^^ b)
   have l3 := low_bits a
   have l4 := low_bits b
   rw [Nat.testBit_and] at l1
   rw [Nat.testBit_xor] at l2
   generalize a.testBit 0 = x at *
   generalize b.testBit 0 = y at *
   cases x <;> cases y <;> simp only [Bool.true_and, Bool.false_and, Bool.true_or, Bool.false_or, Bool.true_xor, Bool.false_xor, Bool.not_true, Bool.not_false, Bool.toNat_true, Bool.toNat_false] at l1 l2 l3 l4 <;> omega
theorem top_bit (a : Nat) (ha : W256 a) : a.testBit 255 = decide (S1 ≤ a) := by
 rw [Nat.testBit_eq_decide_div_mod_eq]
 refine decide_eq_decide.2 ?_
 rw [show (2 : Nat) ^ 255 = S1 by decide]
 unfold W256 at ha
 unfold S1
 omega
theorem and_pow (a n : Nat) : a &&& 2 ^ n = (a.testBit n).toNat * 2 ^ n := by
 refine Nat.eq_of_testBit_eq fun i => ?_
 rw [Nat.testBit_and, Nat.testBit_two_pow]
 cases h : a.testBit n with
 | false =>
  simp only [Bool.toNat_false, Nat.zero_mul, Nat.zero_testBit]
  by_cases e : n = i
  ·subst e; rw [h]; rfl
  ·rw [decide_eq_false e, Bool.and_false]
 | true =>
  simp only [Bool.toNat_true, Nat.one_mul]
  rw [Nat.testBit_two_pow]
  by_cases e : n = i
  ·subst e; rw [h]; simp
  ·rw [decide_eq_false e, Bool.and_false]
theorem xor_S1 (a : Nat) (ha : W256 a) : a ^^^ S1 = if S1 ≤ a then a - S1 else a + S1 := by
 have h := xor_and_add a S1
 have e : a &&& S1 = (a.testBit 255).toNat * S1 := by
  rw [show S1 = 2 ^ 255 by decide]
  exact and_pow a 255
 rw [e, top_bit a ha] at h
 split
 ·rename_i hs
  rw [decide_eq_true hs] at h
  simp only [Bool.toNat_true] at h
  omega
 ·rename_i hs
  rw [decide_eq_false hs] at h
  simp only [Bool.toNat_false] at h
  omega
theorem bt_one (a : Nat) (ha : W256 a) : bt a 255 = if S1 ≤ a then 1 else 0 := by
 rw [bt_test, top_bit a ha]
 by_cases h : S1 ≤ a
 ·rw [decide_eq_true h, if_pos h]; rfl
 ·rw [decide_eq_false h, if_neg h]; rfl
theorem wcmp_neg (x y : Nat) : decide (wcmp x y < 0) = decide (x < y) := by
 unfold wcmp
 by_cases h : x < y
 ·rw [if_pos h, decide_eq_true h]; rfl
 ·rw [if_neg h, decide_eq_false h]; split <;> rfl
theorem refLess3_ret (a b : Nat) (ha : W256 a) (hb : W256 b) : Ret Tryz.prog 50 #[wv a, wv b] (.bool (lessN a b)) := by
 unfold lessN
 rw [wcmp_neg, xor_S1 a ha, xor_S1 b hb]
 have e1 := bt_one a ha
 have e2 := bt_one b hb
 unfold W256 at ha hb
 by_cases h : bt a 255 = bt b 255
 ·have hr := less3_same a b (wcmp a b) (refCmp_ret a b ha hb) h
  rw [wcmp_neg] at hr
  rw [e1, e2] at h
  have e : decide (a < b) = decide ((if S1 ≤ a then a - S1 else a + S1) < (if S1 ≤ b then b - S1 else b + S1)) := by
   refine decide_eq_decide.2 ?_
   unfold S1 at *
   by_cases h1 : 57896044618658097711785492504343953926634992332820282019728792003956564819968 ≤ a <;> by_cases h2 : 57896044618658097711785492504343953926634992332820282019728792003956564819968 ≤ b <;> simp only [h1, h2, if_true, if_false] at h ⊢ <;> omega
  rw [← e]
  exact hr
 ·have hr := less3_other a b h
  rw [e1, e2] at hr h
  have e : decide ((if S1 ≤ b then 1 else 0) < (if S1 ≤ a then 1 else 0)) = decide ((if S1 ≤ a then a - S1 else a + S1) < (if S1 ≤ b then b - S1 else b + S1)) := by
   refine decide_eq_decide.2 ?_
   unfold S1 at *
   by_cases h1 : 57896044618658097711785492504343953926634992332820282019728792003956564819968 ≤ a <;> by_cases h2 : 57896044618658097711785492504343953926634992332820282019728792003956564819968 ≤ b <;> simp only [h1, h2, if_true, if_false] at h ⊢ <;> first | omega | exact absurd trivial h
  rw [← e]
  exact hr
theorem bt_zero_of {a j : Nat} (h : a.testBit j = false) : (bt a j : Int) = 0 := by rw [bt_test, h]; rfl
theorem bt_eq_of {a b i j : Nat} (h : a.testBit i = b.testBit j) : bt a i = bt b j := by rw [bt_test, bt_test, h]
theorem refShl_ret (p a : Nat) (hp : W256 p) (ha : W256 a) : Ret Tryz.prog 56 #[wv p, wv a] (wv (wmod (a * 2 ^ p))) := by
 have hs := refSmall_ret p 256 hp (by omega)
 obtain ⟨c, hc⟩ : ∃ c : Nat, (if p ≤ 256 then p else 256) = c := ⟨_, rfl⟩
 rw [hc] at hs
 have hc1 : c ≤ 256 := by split at hc <;> omega
 have hm := refMoved_ret a (wmod (a * 2 ^ p)) (c : Int) 0 (Nat.mod_lt _ (by decide)) ⟨by omega, by omega⟩ (fun k j hk hj e => bt_eq_of (by
  rw [shl_bit a p k hk]
  have h1 : p ≤ k := by split at hc <;> omega
  rw [decide_eq_true h1, Bool.true_and]
  congr 1
  split at hc <;> omega)) (fun k hk e => bt_zero_of (by
  rw [shl_bit a p k hk]
  rw [decide_eq_false (show ¬ p ≤ k by split at hc <;> omega), Bool.false_and]))
 exact refShl_walk p a (wmod (a * 2 ^ p)) c hs hm ⟨by omega, by omega⟩
theorem refShr_ret (p a : Nat) (hp : W256 p) (ha : W256 a) : Ret Tryz.prog 57 #[wv p, wv a] (wv (a / 2 ^ p)) := by
 have hs := refSmall_ret p 256 hp (by omega)
 obtain ⟨c, hc⟩ : ∃ c : Nat, (if p ≤ 256 then p else 256) = c := ⟨_, rfl⟩
 rw [hc] at hs
 have hc1 : c ≤ 256 := by split at hc <;> omega
 have hm := refMoved_ret a (a / 2 ^ p) (-(c : Int)) 0 (div_lt a _ ha) ⟨by omega, by omega⟩ (fun k j hk hj e => bt_eq_of (by
  rw [Nat.testBit_div_two_pow]
  congr 1
  split at hc <;> omega)) (fun k hk e => bt_zero_of (by
  rw [Nat.testBit_div_two_pow]
  exact bit_far a _ ha (by split at hc <;> omega)))
 exact refShr_walk p a (a / 2 ^ p) c hs hm ⟨by omega, by omega⟩
theorem refSar_ret (p a : Nat) (hp : W256 p) (ha : W256 a) : Ret Tryz.prog 58 #[wv p, wv a] (wv (sarN p a)) := by
 have hs := refSmall_ret p 256 hp (by omega)
 obtain ⟨c, hc⟩ : ∃ c : Nat, (if p ≤ 256 then p else 256) = c := ⟨_, rfl⟩
 rw [hc] at hs
 have hc1 : c ≤ 256 := by split at hc <;> omega
 have hm := refMoved_ret a (sarN p a) (-(c : Int)) (bt a 255 : Int) (sarN_lt p a ha) ⟨by omega, by omega⟩ (fun k j hk hj e => bt_eq_of (by
  rw [sar_bit p a k ha hk]
  have h1 : k + p = j := by split at hc <;> omega
  rw [if_pos (by omega), h1])) (fun k hk e => by
  refine congrArg _ (bt_eq_of ?_)
  rw [sar_bit p a k ha hk]
  rw [if_neg (by split at hc <;> omega)])
 exact refSar_walk p a (sarN p a) c hs hm ⟨by omega, by omega⟩
theorem byte_idx (a p : Nat) (hp : p < 32) (W : World) : (Instr.index 9 (.string (bytesOf a)) (.int .i64 (p : Int))).run Tryz.prog W = .ok (.int .u8 ((byteN a (31 - p) : Nat) : Int)) W := by
 have u := Tryz.underlying9
 have hb := byteN_lt a (31 - p)
 have hs : (bytesOf a)[p]? = some (UInt8.ofNat (byteN a (31 - p))) := by
  have hz : p < (bytesOf a).size := by rw [bytesOf_size]; exact hp
  rw [getElem?_pos _ p hz]
  congr 1
  show (bytesOf a).data[p]'hz = _
  have h2 : (bytesOf a).data.toList[p]? = some (UInt8.ofNat (byteN a (31 - p))) := by
   rw [bytesOf_list]
   unfold byteL
   simp [hp]
  rw [Array.getElem?_toList] at h2
  have hz2 : p < (bytesOf a).data.size := hz
  rw [Array.getElem?_eq_getElem (xs := (bytesOf a).data) hz2] at h2
  exact Option.some.inj h2
 have hn : (UInt8.ofNat (byteN a (31 - p))).toNat = byteN a (31 - p) := by rw [UInt8.toNat_ofNat', Nat.mod_eq_of_lt (show byteN a (31 - p) < 2 ^ 8 by omega)]
 unfold Instr.index
 simp [go_sem, run_underlying u, hs, hn]
theorem refByte_ret (p a : Nat) (hp : W256 p) (ha : W256 a) : Ret Tryz.prog 55 #[wv p, wv a] (wv (byteV p a)) := by
 have hs := refSmall_ret p 32 hp (by omega)
 by_cases h : p < 32
 ·rw [if_pos (by omega)] at hs
  have hb := byteN_lt a (31 - p)
  rw [show byteV p a = byteN a (31 - p) from if_pos h]
  have h3 := refOf_ret ((byteN a (31 - p) : Nat) : Int) (by unfold I64; omega)
  rw [ofN_nat] at h3
  exact refByte_in p a (byteN a (31 - p)) (bytesOf a) p ((byteN a (31 - p) : Nat) : Int) hs (refBytes_ret a) (byte_idx a p h) ⟨by omega, by omega⟩ ⟨by omega, by omega⟩ h3
 ·rw [show (if p ≤ 32 then p else 32) = 32 by split <;> omega] at hs
  rw [show byteV p a = 0 from if_neg h]
  exact (refByte_far p a hs).of_eq rfl wv_0.symm
theorem refSign_ret (p a : Nat) (hp : W256 p) (ha : W256 a) : Ret Tryz.prog 47 #[wv p, wv a] (wv (signN p a)) := by
 have hs := refSmall_ret p 31 hp (by omega)
 by_cases h : p < 31
 ·rw [if_pos (by omega)] at hs
  refine refSign_in p a (signN p a) p hs h (signN_lt p a ha) (fun j hj => ?_)
  unfold sgx
  by_cases h2 : 8 * p + 8 ≤ j ∧ j < 256
  ·rw [if_pos h2]
   refine congrArg _ (bt_eq_of ?_)
   rw [sign_bit p a j ha hj, Nat.min_eq_right (by omega)]
  ·rw [if_neg h2]
   refine congrArg _ (bt_eq_of ?_)
   rw [sign_bit p a j ha hj, Nat.min_eq_left (by omega)]
 ·rw [show (if p ≤ 31 then p else 31) = 31 by split <;> omega] at hs
  rw [sign_same p a (by omega)]
  exact refSign_far p a hs
end
end Go.Proofs.YtnkhmgmganejmaaGreatDoor
