/- Part. -/
import Derived.Test.YtnkhmgmganejmaaGreatDoorT08
import Derived.Lib.BitFns
import Derived.Lib.ItoaNum
import Derived.Test.YtnkhmgmganejmaaGreatDoorT03
import Derived.Lib.Strings
import Derived.Lib.Slices
import Derived.Lib.Small
import Derived.Lib.Walk
import Derived.Deep.Light
import Derived.Test.YtnkhmgmganejmaaGreatDoorT04
set_option maxRecDepth 100000
set_option maxHeartbeats 16000000
namespace Go.Proofs.YtnkhmgmganejmaaGreatDoor
section
open Go Go.RowKit
attribute [local go_sem] Oper.semAt_some Grows wide_fn
theorem byte_far (zi za : Nat → Int) (_n : Nat) (h1 : Ret Tryz.prog 146 #[.agg #[.int .u64 (zi 0), .int .u64 (zi 1), .int .u64 (zi 2), .int .u64 (zi 3)]] (.tuple #[.int .i64 0, .bool false])) :
  Ret Tryz.prog 125 #[.agg #[.int .u64 (zi 0), .int .u64 (zi 1), .int .u64 (zi 2), .int .u64 (zi 3)], .agg #[.int .u64 (za 0), .int .u64 (za 1), .int .u64 (za 2), .int .u64 (za 3)]] (.agg #[.int .u64 0, .int .u64 0, .int .u64 0, .int .u64 0]) := by
 intro w
 have Hh1 := hid h1
 clear h1
 go_enter Tryz.func125, Tryz.ntmps125
 obtain ⟨⟨⟨k13, k14, k15, k16⟩, ⟨k17, k18, k19, k20⟩, ⟨k21, k22, k23, k24⟩⟩, W1, hW1, LI, LA, LR, Q⟩ := pwwz w 24 zi za
 go_wp2_with fail
 clear k13 k14 k15 k16 k17 k18 k19 k20 k21 k22 k23 k24
 rw [hW1.out]
 clear hW1
 refine (Hh1.out _).mono ?_
 rintro e v25 ⟨rfl, q⟩
 have LI := LI.later q
 have LA := LA.later q
 have LR := LR.later q
 have Q := Q.trans (q.mono Q.size)
 clear q
 obtain ⟨r0, r1, r2, r3⟩ := c4 LR
 obtain ⟨z0, z1, z2, z3⟩ := f4 LR
 obtain ⟨k26, k27, k28, k29⟩ := c4 LI
 obtain ⟨k30, k31, k32, k33⟩ := c4 LA
 have HR := hid (((((LR.set 0 (.int .u64 0)).set 1 (.int .u64 0)).set 2 (.int .u64 0)).set 3 (.int .u64 0)))
 have HQ := hid (((((Q.setCell (p := ⟨w.heap.size + 1 + 1, 0, none⟩) (show w.heap.size ≤ _ by simp; first | done | omega) (.int .u64 0)).setCell (p := ⟨w.heap.size + 1 + 1, 1, none⟩) (show w.heap.size ≤ _ by simp; first | done | omega) (.int .u64 0)).setCell (p := ⟨w.heap.size + 1 + 1, 2, none⟩) (show w.heap.size ≤ _ by simp; first | done | omega) (.int .u64 0)).setCell (p := ⟨w.heap.size + 1 + 1, 3, none⟩) (show w.heap.size ≤ _ by simp; first | done | omega) (.int .u64 0)))
 clear Q LI LA LR
 go_wp2
 refine bodyPost_ret (results_word (m := fun _ => 0) rfl rfl HR.out) rfl ⟨rfl, HQ.out⟩
theorem byte_out (zi za : Nat → Int) (n : Nat) (hn : 32 ≤ (n : Int)) (h1 : Ret Tryz.prog 146 #[.agg #[.int .u64 (zi 0), .int .u64 (zi 1), .int .u64 (zi 2), .int .u64 (zi 3)]] (.tuple #[.int .i64 (n : Int), .bool true])) :
  Ret Tryz.prog 125 #[.agg #[.int .u64 (zi 0), .int .u64 (zi 1), .int .u64 (zi 2), .int .u64 (zi 3)], .agg #[.int .u64 (za 0), .int .u64 (za 1), .int .u64 (za 2), .int .u64 (za 3)]] (.agg #[.int .u64 0, .int .u64 0, .int .u64 0, .int .u64 0]) := by
 intro w
 have Hh1 := hid h1
 clear h1
 go_enter Tryz.func125, Tryz.ntmps125
 obtain ⟨⟨⟨k13, k14, k15, k16⟩, ⟨k17, k18, k19, k20⟩, ⟨k21, k22, k23, k24⟩⟩, W1, hW1, LI, LA, LR, Q⟩ := pwwz w 24 zi za
 go_wp2_with fail
 clear k13 k14 k15 k16 k17 k18 k19 k20 k21 k22 k23 k24
 rw [hW1.out]
 clear hW1
 refine (Hh1.out _).mono ?_
 rintro e v25 ⟨rfl, q⟩
 have LI := LI.later q
 have LA := LA.later q
 have LR := LR.later q
 have Q := Q.trans (q.mono Q.size)
 clear q
 obtain ⟨r0, r1, r2, r3⟩ := c4 LR
 obtain ⟨z0, z1, z2, z3⟩ := f4 LR
 obtain ⟨k26, k27, k28, k29⟩ := c4 LI
 obtain ⟨k30, k31, k32, k33⟩ := c4 LA
 have HR := hid (((((LR.set 0 (.int .u64 0)).set 1 (.int .u64 0)).set 2 (.int .u64 0)).set 3 (.int .u64 0)))
 have HQ := hid (((((Q.setCell (p := ⟨w.heap.size + 1 + 1, 0, none⟩) (show w.heap.size ≤ _ by simp; first | done | omega) (.int .u64 0)).setCell (p := ⟨w.heap.size + 1 + 1, 1, none⟩) (show w.heap.size ≤ _ by simp; first | done | omega) (.int .u64 0)).setCell (p := ⟨w.heap.size + 1 + 1, 2, none⟩) (show w.heap.size ≤ _ by simp; first | done | omega) (.int .u64 0)).setCell (p := ⟨w.heap.size + 1 + 1, 3, none⟩) (show w.heap.size ≤ _ by simp; first | done | omega) (.int .u64 0)))
 clear Q LI LA LR
 go_wp2
 refine bodyPost_ret (results_word (m := fun _ => 0) rfl rfl HR.out) rfl ⟨rfl, HQ.out⟩
theorem byte_in (zi za z : Nat → Int) (n : Nat) (s : ByteArray) (hn : (n : Int) < 32) (hs : (s.size : Int) = 32) (hk : n < s.size) (h1 : Ret Tryz.prog 146 #[.agg #[.int .u64 (zi 0), .int .u64 (zi 1), .int .u64 (zi 2), .int .u64 (zi 3)]] (.tuple #[.int .i64 (n : Int), .bool true])) (h2 : Ret Tryz.prog 153 #[.agg #[.int .u64 (za 0), .int .u64 (za 1), .int .u64 (za 2), .int .u64 (za 3)]] (.string s)) (h3 : Ret Tryz.prog 134 #[.int .i64 (s[n].toNat : Int)] (.agg #[.int .u64 (z 0), .int .u64 (z 1), .int .u64 (z 2), .int .u64 (z 3)])) :
  Ret Tryz.prog 125 #[.agg #[.int .u64 (zi 0), .int .u64 (zi 1), .int .u64 (zi 2), .int .u64 (zi 3)], .agg #[.int .u64 (za 0), .int .u64 (za 1), .int .u64 (za 2), .int .u64 (za 3)]] (.agg #[.int .u64 (z 0), .int .u64 (z 1), .int .u64 (z 2), .int .u64 (z 3)]) := by
 intro w
 have hb0 : (0 : Int) ≤ (s[n].toNat : Int) := by omega
 have hb1 : (s[n].toNat : Int) < 256 := by have := s[n].toNat_lt; omega
 have hn0 : (0 : Int) ≤ (n : Int) := by omega
 have hn1 : ¬ 32 ≤ (n : Int) := by omega
 have Hh1 := hid h1
 have Hh2 := hid h2
 have Hh3 := hid h3
 clear h1 h2 h3
 go_enter Tryz.func125, Tryz.ntmps125
 obtain ⟨⟨⟨k13, k14, k15, k16⟩, ⟨k17, k18, k19, k20⟩, ⟨k21, k22, k23, k24⟩⟩, W1, hW1, LI, LA, LR, Q⟩ := pwwz w 24 zi za
 go_wp2_with fail
 clear k13 k14 k15 k16 k17 k18 k19 k20 k21 k22 k23 k24
 rw [hW1.out]
 clear hW1
 refine (Hh1.out _).mono ?_
 rintro e v25 ⟨rfl, q⟩
 have LI := LI.later q
 have LA := LA.later q
 have LR := LR.later q
 have Q := Q.trans (q.mono Q.size)
 clear q
 obtain ⟨k26, k27, k28, k29⟩ := c4 LI
 obtain ⟨k30, k31, k32, k33⟩ := c4 LA
 obtain ⟨k34, k35, k36, k37⟩ := c4 LR
 go_wp2_with fail
 clear k26 k27 k28 k29 k30 k31 k32 k33 k34 k35 k36 k37
 refine (Hh2.out _).mono ?_
 rintro e v38 ⟨rfl, q⟩
 have LI := LI.later q
 have LA := LA.later q
 have LR := LR.later q
 have Q := Q.trans (q.mono Q.size)
 clear q
 obtain ⟨k39, k40, k41, k42⟩ := c4 LI
 obtain ⟨k43, k44, k45, k46⟩ := c4 LA
 obtain ⟨k47, k48, k49, k50⟩ := c4 LR
 go_wp2_with fail
 clear k39 k40 k41 k42 k43 k44 k45 k46 k47 k48 k49 k50
 refine (Hh3.out _).mono ?_
 rintro e v51 ⟨rfl, q⟩
 have LI := LI.later q
 have LA := LA.later q
 have LR := LR.later q
 have Q := Q.trans (q.mono Q.size)
 clear q
 obtain ⟨r0, r1, r2, r3⟩ := c4 LR
 obtain ⟨z0, z1, z2, z3⟩ := f4 LR
 obtain ⟨k52, k53, k54, k55⟩ := c4 LI
 obtain ⟨k56, k57, k58, k59⟩ := c4 LA
 have HR := hid ((s4 LR z))
 have HQ := hid ((q4 (w.heap.size + 1 + 1) Q (by omega) z))
 clear Q LI LA LR
 go_wp2
 refine bodyPost_ret (results_word (m := z) rfl rfl HR.out) rfl ⟨rfl, HQ.out⟩
theorem sign_far (zi za : Nat → Int) (_n : Nat) (h1 : Ret Tryz.prog 146 #[.agg #[.int .u64 (zi 0), .int .u64 (zi 1), .int .u64 (zi 2), .int .u64 (zi 3)]] (.tuple #[.int .i64 0, .bool false])) :
  Ret Tryz.prog 117 #[.agg #[.int .u64 (zi 0), .int .u64 (zi 1), .int .u64 (zi 2), .int .u64 (zi 3)], .agg #[.int .u64 (za 0), .int .u64 (za 1), .int .u64 (za 2), .int .u64 (za 3)]] (.agg #[.int .u64 (za 0), .int .u64 (za 1), .int .u64 (za 2), .int .u64 (za 3)]) := by
 intro w
 have Hh1 := hid h1
 clear h1
 go_enter Tryz.func117, Tryz.ntmps117
 obtain ⟨⟨⟨k13, k14, k15, k16⟩, ⟨k17, k18, k19, k20⟩, ⟨k21, k22, k23, k24⟩⟩, W1, hW1, LI, LA, LR, Q⟩ := pwwz w 24 zi za
 go_wp2_with fail
 clear k13 k14 k15 k16 k17 k18 k19 k20 k21 k22 k23 k24
 rw [hW1.out]
 clear hW1
 refine (Hh1.out _).mono ?_
 rintro e v25 ⟨rfl, q⟩
 have LI := LI.later q
 have LA := LA.later q
 have LR := LR.later q
 have Q := Q.trans (q.mono Q.size)
 clear q
 obtain ⟨r0, r1, r2, r3⟩ := c4 LR
 obtain ⟨z0, z1, z2, z3⟩ := f4 LR
 obtain ⟨k26, k27, k28, k29⟩ := c4 LI
 obtain ⟨k30, k31, k32, k33⟩ := c4 LA
 have HR := hid ((s4 LR za))
 have HQ := hid ((q4 (w.heap.size + 1 + 1) Q (by omega) za))
 clear Q LI LA LR
 go_wp2
 refine bodyPost_ret (results_word (m := za) rfl rfl HR.out) rfl ⟨rfl, HQ.out⟩
theorem sign_out (zi za : Nat → Int) (n : Nat) (hn : 31 ≤ (n : Int)) (h1 : Ret Tryz.prog 146 #[.agg #[.int .u64 (zi 0), .int .u64 (zi 1), .int .u64 (zi 2), .int .u64 (zi 3)]] (.tuple #[.int .i64 (n : Int), .bool true])) :
  Ret Tryz.prog 117 #[.agg #[.int .u64 (zi 0), .int .u64 (zi 1), .int .u64 (zi 2), .int .u64 (zi 3)], .agg #[.int .u64 (za 0), .int .u64 (za 1), .int .u64 (za 2), .int .u64 (za 3)]] (.agg #[.int .u64 (za 0), .int .u64 (za 1), .int .u64 (za 2), .int .u64 (za 3)]) := by
 intro w
 have Hh1 := hid h1
 clear h1
 go_enter Tryz.func117, Tryz.ntmps117
 obtain ⟨⟨⟨k13, k14, k15, k16⟩, ⟨k17, k18, k19, k20⟩, ⟨k21, k22, k23, k24⟩⟩, W1, hW1, LI, LA, LR, Q⟩ := pwwz w 24 zi za
 go_wp2_with fail
 clear k13 k14 k15 k16 k17 k18 k19 k20 k21 k22 k23 k24
 rw [hW1.out]
 clear hW1
 refine (Hh1.out _).mono ?_
 rintro e v25 ⟨rfl, q⟩
 have LI := LI.later q
 have LA := LA.later q
 have LR := LR.later q
 have Q := Q.trans (q.mono Q.size)
 clear q
 obtain ⟨r0, r1, r2, r3⟩ := c4 LR
 obtain ⟨z0, z1, z2, z3⟩ := f4 LR
 obtain ⟨k26, k27, k28, k29⟩ := c4 LI
 obtain ⟨k30, k31, k32, k33⟩ := c4 LA
 have HR := hid ((s4 LR za))
 have HQ := hid ((q4 (w.heap.size + 1 + 1) Q (by omega) za))
 clear Q LI LA LR
 go_wp2
 refine bodyPost_ret (results_word (m := za) rfl rfl HR.out) rfl ⟨rfl, HQ.out⟩
theorem sign_in (zi za zv zl z : Nat → Int) (n : Nat) (hn : (n : Int) < 31) (h1 : Ret Tryz.prog 146 #[.agg #[.int .u64 (zi 0), .int .u64 (zi 1), .int .u64 (zi 2), .int .u64 (zi 3)]] (.tuple #[.int .i64 (n : Int), .bool true])) (h2 : Ret Tryz.prog 134 #[.int .i64 (256 - 8 * ((n : Int) + 1))] (.agg #[.int .u64 (zv 0), .int .u64 (zv 1), .int .u64 (zv 2), .int .u64 (zv 3)])) (h3 : RetT Tryz.prog 126 #[.agg #[.int .u64 (zv 0), .int .u64 (zv 1), .int .u64 (zv 2), .int .u64 (zv 3)], .agg #[.int .u64 (za 0), .int .u64 (za 1), .int .u64 (za 2), .int .u64 (za 3)]] (.agg #[.int .u64 (zl 0), .int .u64 (zl 1), .int .u64 (zl 2), .int .u64 (zl 3)])) (h4 : RetT Tryz.prog 128 #[.agg #[.int .u64 (zv 0), .int .u64 (zv 1), .int .u64 (zv 2), .int .u64 (zv 3)], .agg #[.int .u64 (zl 0), .int .u64 (zl 1), .int .u64 (zl 2), .int .u64 (zl 3)]] (.agg #[.int .u64 (z 0), .int .u64 (z 1), .int .u64 (z 2), .int .u64 (z 3)])) :
  RetT Tryz.prog 117 #[.agg #[.int .u64 (zi 0), .int .u64 (zi 1), .int .u64 (zi 2), .int .u64 (zi 3)], .agg #[.int .u64 (za 0), .int .u64 (za 1), .int .u64 (za 2), .int .u64 (za 3)]] (.agg #[.int .u64 (z 0), .int .u64 (z 1), .int .u64 (z 2), .int .u64 (z 3)]) := by
 intro w HT
 have hn0 : (0 : Int) ≤ (n : Int) := by omega
 have hn1 : ¬ 31 ≤ (n : Int) := by omega
 have Hh1 := hid h1
 have Hh2 := hid h2
 have Hh3 := hid h3
 have Hh4 := hid h4
 clear h1 h2 h3 h4
 go_enter Tryz.func117, Tryz.ntmps117
 have LI := Has.new w 24 (w4 zi)
 obtain ⟨k1, k2, k3, k4⟩ := c4 LI
 have LI := LI.alloc (.cells (w4 za) 24)
 have LA := Has.new (w.alloc (.cells (w4 zi) 24)) 24 (w4 za)
 simp only [World.size_alloc] at LA
 obtain ⟨k5, k6, k7, k8⟩ := c4 LI
 obtain ⟨k9, k10, k11, k12⟩ := c4 LA
 have LI := LI.alloc (.cells z4 24)
 have LA := LA.alloc (.cells z4 24)
 have LR := Has.new ((w.alloc (.cells (w4 zi) 24)).alloc (.cells (w4 za) 24)) 24 z4
 simp only [World.size_alloc] at LR
 obtain ⟨k13, k14, k15, k16⟩ := c4 LI
 obtain ⟨k17, k18, k19, k20⟩ := c4 LA
 obtain ⟨k21, k22, k23, k24⟩ := c4 LR
 have Q := (Below.refl w.heap.size w)
 have Q := Q.alloc Q.size (.cells (w4 zi) 24)
 have HT := HT.alloc (.cells (w4 zi) 24)
 have Q := Q.alloc Q.size (.cells (w4 za) 24)
 have HT := HT.alloc (.cells (w4 za) 24)
 have Q := Q.alloc Q.size (.cells z4 24)
 have HT := HT.alloc (.cells z4 24)
 go_wp2_with fail
 clear k1 k2 k3 k4 k5 k6 k7 k8 k9 k10 k11 k12 k13 k14 k15 k16 k17 k18 k19 k20 k21 k22 k23 k24
 obtain ⟨W1, hW1⟩ : ∃ W1, (((w.alloc (.cells (w4 zi) 24)).alloc (.cells (w4 za) 24)).alloc (.cells z4 24)) = W1 := ⟨_, rfl⟩
 rw [hW1] at LI LA LR Q HT ⊢
 clear hW1
 refine (Hh1.out _).mono ?_
 rintro e v25 ⟨rfl, q⟩
 have HT := HT.later q
 have LI := LI.later q
 have LA := LA.later q
 have LR := LR.later q
 have Q := Q.trans (q.mono Q.size)
 clear q
 obtain ⟨k26, k27, k28, k29⟩ := c4 LI
 obtain ⟨k30, k31, k32, k33⟩ := c4 LA
 obtain ⟨k34, k35, k36, k37⟩ := c4 LR
 go_wp2_with fail
 clear k26 k27 k28 k29 k30 k31 k32 k33 k34 k35 k36 k37
 refine (Hh2.out _).mono ?_
 rintro e v38 ⟨rfl, q⟩
 have HT := HT.later q
 have LI := LI.later q
 have LA := LA.later q
 have LR := LR.later q
 have Q := Q.trans (q.mono Q.size)
 clear q
 obtain ⟨k39, k40, k41, k42⟩ := c4 LI
 obtain ⟨k43, k44, k45, k46⟩ := c4 LA
 obtain ⟨k47, k48, k49, k50⟩ := c4 LR
 have LI := LI.alloc (.cells (w4 zv) 24)
 have LA := LA.alloc (.cells (w4 zv) 24)
 have LR := LR.alloc (.cells (w4 zv) 24)
 have LV := Has.new v38 24 (w4 zv)
 obtain ⟨k51, k52, k53, k54⟩ := c4 LI
 obtain ⟨k55, k56, k57, k58⟩ := c4 LA
 obtain ⟨k59, k60, k61, k62⟩ := c4 LR
 obtain ⟨k63, k64, k65, k66⟩ := c4 LV
 have Q := Q.alloc Q.size (.cells (w4 zv) 24)
 have HT := HT.alloc (.cells (w4 zv) 24)
 go_wp2_with fail
 clear k39 k40 k41 k42 k43 k44 k45 k46 k47 k48 k49 k50 k51 k52 k53 k54 k55 k56 k57 k58 k59 k60 k61 k62 k63 k64 k65 k66
 obtain ⟨W2, hW2⟩ : ∃ W2, (v38.alloc (.cells (w4 zv) 24)) = W2 := ⟨_, rfl⟩
 rw [hW2] at LI LA LR LV Q HT ⊢
 clear hW2
 generalize v38.heap.size = b2 at *
 obtain ⟨k67, k68, k69, k70⟩ := e4 LI
 obtain ⟨k71, k72, k73, k74⟩ := e4 LA
 obtain ⟨k75, k76, k77, k78⟩ := e4 LR
 obtain ⟨k79, k80, k81, k82⟩ := e4 LV
 have hmx : Tryz.prog.follows .mixedOrders = true := by kernel_rfl
 refine wp_region_mix (C := Grows W2) [some true, some true, some true, some true, some true, none] hmx (by kernel_rfl) (by kernel_rfl) (grows_refl W2) ?_
 simp only [headOf, tailOf]
 repeat (go_big_quiet_step (first | (with_reducible exact RetT.at Hh3.out HT _) | (with_reducible exact RetT.at Hh4.out HT _)))
 refine wpQuiet_nil ?_
 rintro _ ⟨x83, rfl⟩
 clear k67 k68 k69 k70 k71 k72 k73 k74 k75 k76 k77 k78 k79 k80 k81 k82
 have LR := LR.later x83.below
 have Q := Q.trans (x83.below.mono Q.size)
 obtain ⟨r0, r1, r2, r3⟩ := c4 LR
 obtain ⟨z0, z1, z2, z3⟩ := f4 LR
 have HR := hid ((s4 LR z))
 have HQ := hid ((q4 (w.heap.size + 1 + 1) Q (by omega) z))
 clear Q LI LA LR LV
 go_wp2
 rw [calmPost_normal]
 go_wp2
 refine bodyPost_ret (results_word (m := z) rfl rfl HR.out) rfl ⟨rfl, HQ.out⟩
theorem bytesOf_size' (a : Nat) : (bytesOf a).size = 32 := by unfold bytesOf; rw [strOfNums_size]; simp
theorem bytesOf_at (a n : Nat) (hn : n < 32) (h : n < (bytesOf a).size) : (((bytesOf a)[n]'h).toNat : Int) = ((byteN a (31 - n) : Nat) : Int) := by
 have e : (bytesOf a).data.toList[n]? = some (UInt8.ofNat (byteN a (31 - n))) := by
  unfold bytesOf
  rw [strOfNums_data]
  simp [hn]
 have e2 : (bytesOf a)[n]'h = UInt8.ofNat (byteN a (31 - n)) := by
  have h3 : (bytesOf a).data.toList[n]? = some ((bytesOf a)[n]'h) := by
   rw [Array.getElem?_toList]
   exact Array.getElem?_eq_getElem h
  rw [h3] at e
  exact Option.some.inj e
 rw [e2]
 have := byteN_lt a (31 - n)
 simp
 omega
def byteV (i a : Nat) : Nat := if i < 32 then byteN a (31 - i) else 0
theorem byteV_lt (i a : Nat) : byteV i a < 256 := by
 unfold byteV
 split
 ·exact byteN_lt _ _
 ·omega
theorem byte_ret (i a : Nat) (hi : W256 i) (ha : W256 a) : Ret Tryz.prog 125 #[wv i, wv a] (wv (byteV i a)) := by
 have h := int_ret i hi
 unfold intV at h
 unfold byteV
 by_cases hm : i ≤ maxI
 ·rw [if_pos hm] at h
  by_cases hn : i < 32
  ·rw [if_pos hn]
   have hs := bytesOf_size' a
   have hk : i < (bytesOf a).size := by omega
   have hb := bytesOf_at a i hn hk
   have hl := byteN_lt a (31 - i)
   refine byte_in (lim i) (lim a) (lim _) i (bytesOf a) (by omega) (by omega) hk h (bytes_ret a ha) ?_
   rw [hb]
   exact (of_ret ((byteN a (31 - i) : Nat) : Int) (by unfold I64; omega)).of_eq rfl (by rw [ofN_nat]; rfl)
  ·rw [if_neg hn, wv_0]
   exact byte_out (lim i) (lim a) i (by omega) h
 ·rw [if_neg hm] at h
  rw [if_neg (by unfold maxI at hm; omega), wv_0]
  exact byte_far (lim i) (lim a) i h
def signN (i a : Nat) : Nat := if i < 31 then sarN (256 - 8 * (i + 1)) (wmod (a * 2 ^ (256 - 8 * (i + 1)))) else a
theorem signN_lt (i a : Nat) (ha : W256 a) : W256 (signN i a) := by
 unfold signN
 split
 ·exact sarN_lt _ _ (wmod_lt _)
 ·exact ha
theorem sign_ret (i a : Nat) (hi : W256 i) (ha : W256 a) : RetT Tryz.prog 117 #[wv i, wv a] (wv (signN i a)) := by
 have h := int_ret i hi
 unfold intV at h
 unfold signN
 by_cases hm : i ≤ maxI
 ·rw [if_pos hm] at h
  by_cases hn : i < 31
  ·rw [if_pos hn]
   have hv : W256 (256 - 8 * (i + 1)) := by unfold W256; omega
   have h2 := of_ret (256 - 8 * ((i : Int) + 1)) (by unfold I64; omega)
   rw [show (256 - 8 * ((i : Int) + 1)) = ((256 - 8 * (i + 1) : Nat) : Int) by omega, ofN_nat] at h2
   refine sign_in (lim i) (lim a) (lim (256 - 8 * (i + 1))) (lim _) (lim _) i (by omega) h ?_ (shl_ret _ a hv ha) (sar_ret _ _ hv (wmod_lt _))
   rw [show (256 - 8 * ((i : Int) + 1)) = ((256 - 8 * (i + 1) : Nat) : Int) by omega]
   exact h2
  ·rw [if_neg hn]
   exact (sign_out (lim i) (lim a) i (by omega) h).toT
 ·rw [if_neg hm] at h
  rw [if_neg (by unfold maxI at hm; omega)]
  exact (sign_far (lim i) (lim a) i h).toT
end
section
open Go
def dcA (r bit : Nat) : Nat → Int
 | 0 => (bit : Int)
 | k + 1 => addN r r k (dcA r bit k)
theorem dcA_bit (r bit : Nat) (hb : bit ≤ 1) : ∀ k, Bit (dcA r bit k)
 | 0 => by unfold Bit dcA; omega
 | k + 1 => addN_bit r r k _ (dcA_bit r bit hb k)
theorem dbl_all (r bit : Nat) (hr : W256 r) (_hb : bit ≤ 1) : (∀ k, k < 4 → addO r r k (dcA r bit k) = lim (wmod (2 * r + bit)) k) ∧
  dcA r bit 4 = (((2 * r + bit) / 115792089237316195423570985008687907853269984665640564039457584007913129639936 : Nat) : Int) := by
 have e := num_lim r hr
 have k0 : addO r r 0 (dcA r bit 0) + 18446744073709551616 * dcA r bit 1 = lim r 0 + lim r 0 + dcA r bit 0 := add_step ..
 have k1 : addO r r 1 (dcA r bit 1) + 18446744073709551616 * dcA r bit 2 = lim r 1 + lim r 1 + dcA r bit 1 := add_step ..
 have k2 : addO r r 2 (dcA r bit 2) + 18446744073709551616 * dcA r bit 3 = lim r 2 + lim r 2 + dcA r bit 2 := add_step ..
 have k3 : addO r r 3 (dcA r bit 3) + 18446744073709551616 * dcA r bit 4 = lim r 3 + lim r 3 + dcA r bit 3 := add_step ..
 have h0 : dcA r bit 0 = (bit : Int) := rfl
 obtain ⟨z, hz⟩ : ∃ z : Nat → Int, z = fun k => addO r r k (dcA r bit k) := ⟨_, rfl⟩
 have z0 : z 0 = addO r r 0 (dcA r bit 0) := by rw [hz]
 have z1 : z 1 = addO r r 1 (dcA r bit 1) := by rw [hz]
 have z2 : z 2 = addO r r 2 (dcA r bit 2) := by rw [hz]
 have z3 : z 3 = addO r r 3 (dcA r bit 3) := by rw [hz]
 have u : ∀ k, U64 (z k) := fun k => by rw [hz]; exact addO_u64 ..
 obtain ⟨n0, n1⟩ := num_lt z (u 0) (u 1) (u 2) (u 3)
 have key : num z + 115792089237316195423570985008687907853269984665640564039457584007913129639936 * dcA r bit 4 = ((2 * r + bit : Nat) : Int) := by
  have e2 : ((2 * r + bit : Nat) : Int) = (r : Int) + (r : Int) + (bit : Int) := by omega
  rw [e2, ← e, ← h0]
  rw [← z0] at k0; rw [← z1] at k1; rw [← z2] at k2; rw [← z3] at k3
  unfold num
  clear e e2 h0 hz z0 z1 z2 z3 u n0 n1
  omega
 have hq : num z = ((wmod (2 * r + bit) : Nat) : Int) ∧ dcA r bit 4 = (((2 * r + bit) / 115792089237316195423570985008687907853269984665640564039457584007913129639936 : Nat) : Int) := by
  unfold wmod
  clear e k0 k1 k2 k3 z0 z1 z2 z3 u h0 hz
  generalize num z = x at *
  generalize dcA r bit 4 = c at *
  generalize 2 * r + bit = N at *
  constructor <;> omega
 refine ⟨fun k hk => ?_, hq.2⟩
 obtain ⟨l0, l1, l2, l3⟩ := lim_num z _ (u 0) (u 1) (u 2) (u 3) hq.1
 rcases (show k = 0 ∨ k = 1 ∨ k = 2 ∨ k = 3 by omega) with rfl | rfl | rfl | rfl
 ·rw [l0, z0]
 ·rw [l1, z1]
 ·rw [l2, z2]
 ·rw [l3, z3]
def sbA (t b : Nat) : Nat → Int
 | 0 => 0
 | k + 1 => subN t b k (sbA t b k)
theorem sbA_bit (t b : Nat) : ∀ k, Bit (sbA t b k)
 | 0 => bit_zero
 | k + 1 => subN_bit t b k _
theorem sub_all (t b : Nat) (ht : W256 t) (hb : W256 b) : (∀ k, k < 4 → subO t b k (sbA t b k) = lim (wsub t b) k) ∧ sbA t b 4 = if t < b then 1 else 0 := by
 have et := num_lim t ht
 have eb := num_lim b hb
 have st : ∀ k, subO t b k (sbA t b k) = lim t k - lim b k - sbA t b k + 18446744073709551616 * sbA t b (k + 1) := fun k => sub_step _ _ _ (lim_u64 t k) (lim_u64 b k) (sbA_bit t b k)
 have k0 : subO t b 0 (sbA t b 0) = lim t 0 - lim b 0 - sbA t b 0 + 18446744073709551616 * sbA t b 1 := st 0
 have k1 : subO t b 1 (sbA t b 1) = lim t 1 - lim b 1 - sbA t b 1 + 18446744073709551616 * sbA t b 2 := st 1
 have k2 : subO t b 2 (sbA t b 2) = lim t 2 - lim b 2 - sbA t b 2 + 18446744073709551616 * sbA t b 3 := st 2
 have k3 : subO t b 3 (sbA t b 3) = lim t 3 - lim b 3 - sbA t b 3 + 18446744073709551616 * sbA t b 4 := st 3
 have h0 : sbA t b 0 = 0 := rfl
 rw [h0] at k0
 obtain ⟨z, hz⟩ : ∃ z : Nat → Int, z = fun k => subO t b k (sbA t b k) := ⟨_, rfl⟩
 have z0 : z 0 = subO t b 0 (sbA t b 0) := by rw [hz]
 have z1 : z 1 = subO t b 1 (sbA t b 1) := by rw [hz]
 have z2 : z 2 = subO t b 2 (sbA t b 2) := by rw [hz]
 have z3 : z 3 = subO t b 3 (sbA t b 3) := by rw [hz]
 rw [h0] at z0
 have u : ∀ k, U64 (z k) := fun k => by rw [hz]; exact subO_u64 ..
 obtain ⟨n0, n1⟩ := num_lt z (u 0) (u 1) (u 2) (u 3)
 have hbit := sbA_bit t b 4
 have key : num z = (t : Int) - (b : Int) + 115792089237316195423570985008687907853269984665640564039457584007913129639936 * sbA t b 4 := by
  rw [← et, ← eb]
  rw [← z0] at k0; rw [← z1] at k1; rw [← z2] at k2; rw [← z3] at k3
  unfold num
  clear et eb hz z0 z1 z2 z3 u n0 n1 hbit st
  omega
 have hq : num z = ((wsub t b : Nat) : Int) ∧ sbA t b 4 = if t < b then 1 else 0 := by
  unfold wsub wmod
  unfold Bit at hbit
  unfold W256 at ht hb
  clear et eb k0 k1 k2 k3 z0 z1 z2 z3 u st h0 hz
  generalize num z = x at *
  generalize sbA t b 4 = c at *
  by_cases h : t < b
  ·rw [if_pos h]; constructor <;> omega
  ·rw [if_neg h]; constructor <;> omega
 refine ⟨fun k hk => ?_, hq.2⟩
 obtain ⟨l0, l1, l2, l3⟩ := lim_num z _ (u 0) (u 1) (u 2) (u 3) hq.1
 rcases (show k = 0 ∨ k = 1 ∨ k = 2 ∨ k = 3 by omega) with rfl | rfl | rfl | rfl
 ·rw [l0, z0]; rfl
 ·rw [l1, z1]
 ·rw [l2, z2]
 ·rw [l3, z3]
def bdR (r b bit : Nat) : Nat := if b ≤ 2 * r + bit then 2 * r + bit - b else 2 * r + bit
theorem bd_short (r b bit : Nat) (hb : W256 b) (hr : r < b) (h1 : bit ≤ 1) (h : ¬ b ≤ 2 * r + bit) : wmod (2 * r + bit) = bdR r b bit ∧ dcA r bit 4 < sbA (wmod (2 * r + bit)) b 4 := by
 have hr' : W256 r := by unfold W256 at *; omega
 have e := (dbl_all r bit hr' h1).2
 have e2 := (sub_all (wmod (2 * r + bit)) b (wmod_lt _) hb).2
 rw [e, e2]
 unfold bdR
 rw [if_neg h]
 unfold W256 at hb
 have e3 : wmod (2 * r + bit) = 2 * r + bit := by unfold wmod; omega
 rw [e3, if_pos (by omega)]
 exact ⟨rfl, by omega⟩
theorem bd_long (r b bit : Nat) (hb : W256 b) (hr : r < b) (h1 : bit ≤ 1) (h : b ≤ 2 * r + bit) : wsub (wmod (2 * r + bit)) b = bdR r b bit ∧ ¬ dcA r bit 4 < sbA (wmod (2 * r + bit)) b 4 := by
 have hr' : W256 r := by unfold W256 at *; omega
 have e := (dbl_all r bit hr' h1).2
 have e2 := (sub_all (wmod (2 * r + bit)) b (wmod_lt _) hb).2
 rw [e, e2]
 unfold bdR
 rw [if_pos h]
 unfold W256 at hb
 constructor
 ·unfold wsub wmod; omega
 ·unfold wmod
  split <;> omega
theorem bd_mod (N b : Nat) (hb : 0 < b) (k : Nat) : bdR (N / 2 ^ (k + 1) % b) b (N / 2 ^ k % 2) = N / 2 ^ k % b ∧ (b ≤ 2 * (N / 2 ^ (k + 1) % b) + N / 2 ^ k % 2 ↔ N / 2 ^ k / b = 2 * (N / 2 ^ (k + 1) / b) + 1) ∧
  (¬ b ≤ 2 * (N / 2 ^ (k + 1) % b) + N / 2 ^ k % 2 ↔ N / 2 ^ k / b = 2 * (N / 2 ^ (k + 1) / b)) := by
 have e : N / 2 ^ (k + 1) = N / 2 ^ k / 2 := by rw [Nat.pow_succ, Nat.div_div_eq_div_mul]
 rw [e]
 generalize N / 2 ^ k = M
 have h1 := Nat.div_add_mod (M / 2) b
 have h2 := Nat.mod_lt (M / 2) hb
 have h3 := Nat.div_add_mod M 2
 generalize M / 2 / b = q at *
 generalize M / 2 % b = r at *
 have hM : M = b * (2 * q) + (2 * r + M % 2) := by
  have : 2 * (b * q + r) + M % 2 = M := by rw [h1]; omega
  rw [Nat.mul_add] at this
  rw [Nat.mul_left_comm]
  omega
 have hbit : M % 2 < 2 := Nat.mod_lt _ (by decide)
 generalize M % 2 = c at *
 by_cases h : b ≤ 2 * r + c
 ·have hM2 : M = (2 * r + c - b) + b * (2 * q + 1) := by rw [Nat.mul_add, Nat.mul_one]; omega
  have hd : M / b = 2 * q + 1 := by rw [hM2, Nat.add_mul_div_left _ _ hb, Nat.div_eq_of_lt (by omega), Nat.zero_add]
  have hm : M % b = 2 * r + c - b := by rw [hM2, Nat.add_mul_mod_self_left, Nat.mod_eq_of_lt (by omega)]
  unfold bdR
  rw [if_pos h, hd, hm]
  exact ⟨rfl, ⟨fun _ => rfl, fun _ => h⟩, ⟨fun h' => absurd h h', fun h' => by omega⟩⟩
 ·have hM2 : M = (2 * r + c) + b * (2 * q) := by omega
  have hd : M / b = 2 * q := by rw [hM2, Nat.add_mul_div_left _ _ hb, Nat.div_eq_of_lt (by omega), Nat.zero_add]
  have hm : M % b = 2 * r + c := by rw [hM2, Nat.add_mul_mod_self_left, Nat.mod_eq_of_lt (by omega)]
  unfold bdR
  rw [if_neg h, hd, hm]
  exact ⟨rfl, ⟨fun h' => absurd h' h, fun h' => by omega⟩, ⟨fun _ => rfl, fun _ => h⟩⟩
def LenOk (N L : Nat) : Prop := N < 2 ^ L ∧ (N = 0 → L = 0) ∧ (N ≠ 0 → 1 ≤ L ∧ 2 ^ (L - 1) ≤ N)
theorem lenOk_zero : LenOk 0 0 := ⟨by decide, fun _ => rfl, fun h => absurd rfl h⟩
theorem lenOk_part (N p x : Nat) (hx : x < 18446744073709551616) (h0 : x ≠ 0) (hN : N / 18446744073709551616 ^ p = x) : LenOk N (p * 64 + Lib.bitLen x) := by
 obtain ⟨h1, h2, h3⟩ := Lib.bitLenAux_bounds 64 x hx h0
 have e : 2 ^ (p * 64) = 18446744073709551616 ^ p := by rw [Nat.mul_comm, Nat.pow_mul]
 have hp : 0 < 18446744073709551616 ^ p := Nat.pow_pos (by decide)
 have g1 : x * 18446744073709551616 ^ p ≤ N := by rw [← hN]; exact Nat.div_mul_le_self _ _
 have g2 : N < (x + 1) * 18446744073709551616 ^ p := by
  rw [← hN]
  exact (Nat.div_lt_iff_lt_mul hp).1 (Nat.lt_succ_self _)
 unfold Lib.bitLen
 generalize Lib.bitLenAux 64 x = L at *
 refine ⟨?_, fun h => ?_, fun _ => ⟨by omega, ?_⟩⟩
 ·rw [Nat.pow_add, e, Nat.mul_comm]
  exact Nat.lt_of_lt_of_le g2 (Nat.mul_le_mul_right _ h3)
 ·subst h
  rw [Nat.zero_div] at hN
  exact absurd hN.symm h0
 ·rw [show p * 64 + L - 1 = p * 64 + (L - 1) by omega, Nat.pow_add, e, Nat.mul_comm]
  exact Nat.le_trans (Nat.mul_le_mul_right _ h2) g1
theorem lenOk_low (N b La Lb : Nat) (hb : b ≠ 0) (ha : LenOk N La) (hl : LenOk b Lb) : N / 2 ^ (La + 1 - Lb) < b := by
 obtain ⟨g1, g2⟩ := hl.2.2 hb
 have h1 := ha.1
 by_cases h : La + 1 ≤ Lb
 ·rw [show La + 1 - Lb = 0 by omega, Nat.pow_zero, Nat.div_one]
  have : 2 ^ La ≤ 2 ^ (Lb - 1) := Nat.pow_le_pow_right (by decide) (by omega)
  omega
 ·refine Nat.lt_of_lt_of_le ?_ g2
  rw [Nat.div_lt_iff_lt_mul (Nat.pow_pos (by decide)), ← Nat.pow_add, show Lb - 1 + (La + 1 - Lb) = La by omega]
  exact h1
end
section
open Go Go.RowKit Go.Shelf
attribute [local go_sem] Oper.semAt_some Grows wide_fn
def Limbs (W : World) (B : Nat) (t : TypeId) (n : Nat) (m : Nat → Int) : Prop := ∃ cur, W.heap[B]? = some (.cells cur t (0, 0)) ∧ cur.size = n ∧ ∀ j, j < n → cur[j]? = some (.int .u64 (m j))
theorem Limbs.lt {W : World} {B n : Nat} {t : TypeId} {m : Nat → Int} (h : Limbs W B t n m) : B < W.heap.size := by
 obtain ⟨cur, h1, _⟩ := h
 exact (Array.getElem?_eq_some_iff.1 h1).1
theorem Limbs.cell {W : World} {B n : Nat} {t : TypeId} {m : Nat → Int} (h : Limbs W B t n m) {j : Nat} (hj : j < n) : W.cell? ⟨B, j, none⟩ = some (.int .u64 (m j)) := by
 obtain ⟨cur, h1, _, h2⟩ := h
 simp [World.cell?, h1, h2 j hj]
theorem Limbs.frozen {W : World} {B n : Nat} {t : TypeId} {m : Nat → Int} (h : Limbs W B t n m) (j : Nat) : W.frozen? ⟨B, j, none⟩ = false := by
 obtain ⟨cur, h1, _⟩ := h
 simp [World.frozen?, h1]
theorem Limbs.kept {W W' : World} {row : Option Nat} {B n : Nat} {t : TypeId} {m : Nat → Int} (h : Limbs W B t n m) (hg : W.grownBy W' row) (hne : some B ≠ row) : Limbs W' B t n m := by
 have hl := h.lt
 obtain ⟨cur, h1, h2⟩ := h
 exact ⟨cur, (hg.block B hl hne).trans h1, h2⟩
theorem Limbs.below {W W' : World} {B n k : Nat} {t : TypeId} {m : Nat → Int} (h : Limbs W B t n m) (hb : Below k W W') (hlt : B < k) : Limbs W' B t n m := by
 obtain ⟨cur, h1, h2⟩ := h
 exact ⟨cur, (hb.block B hlt).trans h1, h2⟩
theorem Limbs.later {W W' : World} {B n : Nat} {t : TypeId} {m : Nat → Int} (h : Limbs W B t n m) (hb : Below W.heap.size W W') : Limbs W' B t n m := h.below hb h.lt
theorem Limbs.alloc {W : World} {B n : Nat} {t : TypeId} {m : Nat → Int} (h : Limbs W B t n m) (o : Obj) : Limbs (W.alloc o) B t n m := h.kept (World.grownBy_alloc W o none) (by simp)
theorem Limbs.other {W : World} {B n : Nat} {t : TypeId} {m : Nat → Int} (h : Limbs W B t n m) {p : Addr} (hne : B ≠ p.block) (v : Value) : Limbs (W.setCell p v) B t n m := by
 obtain ⟨cur, h1, h2⟩ := h
 exact ⟨cur, (Below.heap_setCell W p v B hne).trans h1, h2⟩
theorem Limbs.set {W : World} {B n : Nat} {t : TypeId} {m : Nat → Int} (h : Limbs W B t n m) {k : Nat} (hk : k < n) (v : Int) : Limbs (W.setCell ⟨B, k, none⟩ (.int .u64 v)) B t n (fun j => if j = k then v else m j) := by
 obtain ⟨cur, h1, hs, h2⟩ := h
 obtain ⟨hlt, he⟩ := Array.getElem?_eq_some_iff.1 h1
 refine ⟨cur.setIfInBounds k (.int .u64 v), ?_, by simpa using hs, fun j hj => ?_⟩
 ·show (W.heap.modify B _)[B]? = _
  rw [Array.getElem?_eq_getElem (by rw [Array.size_modify]; exact hlt), Array.getElem_modify_self, he]
  rfl
 ·show (cur.setIfInBounds k (.int .u64 v))[j]? = some (.int .u64 (if j = k then v else m j))
  by_cases e : j = k
  ·subst e
   rw [if_pos rfl, Array.getElem?_setIfInBounds_self_of_lt (by omega)]
  ·rw [if_neg e, Array.getElem?_setIfInBounds_ne (by omega)]
   exact h2 j hj
theorem Limbs.congr {W : World} {B n : Nat} {t : TypeId} {m m' : Nat → Int} (h : Limbs W B t n m) (he : ∀ j, j < n → m j = m' j) : Limbs W B t n m' := by
 obtain ⟨cur, h1, hs, h2⟩ := h
 exact ⟨cur, h1, hs, fun j hj => by rw [← he j hj]; exact h2 j hj⟩
theorem Limbs.of4 {W : World} {B : Nat} {t : TypeId} {m : Nat → Int} (h : Arr4 W B t m) : Limbs W B t 4 m := ⟨_, h, rfl, fun j hj => by
 rcases (show j = 0 ∨ j = 1 ∨ j = 2 ∨ j = 3 by omega) with rfl | rfl | rfl | rfl <;> rfl⟩
theorem Limbs.to4 {W : World} {B : Nat} {t : TypeId} {m : Nat → Int} (h : Limbs W B t 4 m) : Arr4 W B t m := by
 obtain ⟨cur, h1, hs, h2⟩ := h
 unfold Arr4
 rw [h1]
 congr 2
 refine Array.ext (by rw [hs]; rfl) fun j hj hj' => ?_
 have h3 := h2 j (by omega)
 rw [Array.getElem?_eq_getElem hj] at h3
 rw [Option.some.inj h3]
 rcases (show j = 0 ∨ j = 1 ∨ j = 2 ∨ j = 3 by omega) with rfl | rfl | rfl | rfl <;> rfl
theorem tab8_size : (Lib.len8tab.size : Int) = 256 := by
 have : Lib.len8tab.size = 256 := by decide
 omega
theorem tab8_get (y : Int) (h : y.toNat < Lib.len8tab.size) : ((Lib.len8tab[y.toNat]'h).toNat : Int) = Lib.len8 y := by
 unfold Lib.len8
 rw [getElem?_pos Lib.len8tab y.toNat h]
 rfl
theorem wrap_two (k a b : Nat) (hk : k ≤ 56) (ha : a ≤ 8) (hb : b = k + a) : RowKit.wrap64 ((k : Int) + RowKit.wrap64 (a : Int)) = (b : Int) := by
 unfold RowKit.wrap64
 omega
theorem wrap_twice (a : Nat) (ha : a ≤ 8) : RowKit.wrap64 (RowKit.wrap64 (a : Int)) = (a : Int) := by
 unfold RowKit.wrap64
 omega
theorem wrap_once (a : Nat) (ha : a ≤ 8) : RowKit.wrap64 (a : Int) = (a : Int) := by
 unfold RowKit.wrap64
 omega
theorem len64_any (x : Int) (w : World) (h0 : 0 ≤ x) (h1 : x ≤ 18446744073709551615) :
  Calls Tryz.prog 165 #[.int .u64 x] w fun e w' => e = .returned (.int .i64 (Lib.bitLen x.toNat)) ∧ w' = w := by
 go_enter Tryz.func165, Tryz.ntmps165
 go_wp2
 all_goals first
  | (go_ret; refine ⟨congrArg Ending.returned (congrArg (Value.int IntKind.i64) ?_), rfl⟩; go_light)
  | (
    exfalso
    go_light
    have hs := tab8_size
    omega)
 all_goals first
  | (
    rw [tab8_get (x / 4294967296 / 65536 / 256) _, Lib.len8_of (x / 4294967296 / 65536 / 256) (by omega) (by omega)]
    have e : (x / 4294967296 / 65536 / 256).toNat = x.toNat / 72057594037927936 := by omega
    have l := Lib.bitLen_le8' (x / 4294967296 / 65536 / 256) (by omega) (by omega)
    have s := Lib.bitLen_shift56 x.toNat (by omega) (by omega)
    rw [e] at l ⊢
    exact wrap_two 56 _ _ (by decide) l s)
  | (
    rw [tab8_get (x / 4294967296 / 65536) _, Lib.len8_of (x / 4294967296 / 65536) (by omega) (by omega)]
    have e : (x / 4294967296 / 65536).toNat = x.toNat / 281474976710656 := by omega
    have l := Lib.bitLen_le8' (x / 4294967296 / 65536) (by omega) (by omega)
    have s := Lib.bitLen_shift48 x.toNat (by omega) (by omega)
    rw [e] at l ⊢
    exact wrap_two 48 _ _ (by decide) l s)
  | (
    rw [tab8_get (x / 4294967296 / 256) _, Lib.len8_of (x / 4294967296 / 256) (by omega) (by omega)]
    have e : (x / 4294967296 / 256).toNat = x.toNat / 1099511627776 := by omega
    have l := Lib.bitLen_le8' (x / 4294967296 / 256) (by omega) (by omega)
    have s := Lib.bitLen_shift40 x.toNat (by omega) (by omega)
    rw [e] at l ⊢
    exact wrap_two 40 _ _ (by decide) l s)
  | (
    rw [tab8_get (x / 4294967296) _, Lib.len8_of (x / 4294967296) (by omega) (by omega)]
    have e : (x / 4294967296).toNat = x.toNat / 4294967296 := by omega
    have l := Lib.bitLen_le8' (x / 4294967296) (by omega) (by omega)
    have s := Lib.bitLen_shift32 x.toNat (by omega) (by omega)
    rw [e] at l ⊢
    exact wrap_two 32 _ _ (by decide) l s)
  | (
    rw [tab8_get (x / 65536 / 256) _, Lib.len8_of (x / 65536 / 256) (by omega) (by omega)]
    have e : (x / 65536 / 256).toNat = x.toNat / 16777216 := by omega
    have l := Lib.bitLen_le8' (x / 65536 / 256) (by omega) (by omega)
    have s := Lib.bitLen_shift24 x.toNat (by omega) (by omega)
    rw [e] at l ⊢
    exact wrap_two 24 _ _ (by decide) l s)
  | (
    rw [tab8_get (x / 65536) _, Lib.len8_of (x / 65536) (by omega) (by omega)]
    have e : (x / 65536).toNat = x.toNat / 65536 := by omega
    have l := Lib.bitLen_le8' (x / 65536) (by omega) (by omega)
    have s := Lib.bitLen_shift16 x.toNat (by omega) (by omega)
    rw [e] at l ⊢
    exact wrap_two 16 _ _ (by decide) l s)
  | (
    rw [tab8_get (x / 256) _, Lib.len8_of (x / 256) (by omega) (by omega)]
    have e : (x / 256).toNat = x.toNat / 256 := by omega
    have l := Lib.bitLen_le8' (x / 256) (by omega) (by omega)
    have s := Lib.bitLen_shift8 x.toNat (by omega) (by omega)
    rw [e] at l ⊢
    exact wrap_two 8 _ _ (by decide) l s)
  | (
    rw [tab8_get x _, Lib.len8_of x (by omega) (by omega)]
    have l := Lib.bitLen_le8' x (by omega) (by omega)
    first | exact wrap_once _ l | exact wrap_twice _ l)
theorem part4_any (B p : Nat) (m : Nat → Int) (hp : p < 1152921504606846976) (w : World) (h : Limbs w B 129 4 m) :
  Calls Tryz.prog 178 #[.pointer (some ⟨B, 0, none⟩), .int .i64 (p : Int)] w fun e w' => e = .returned (.int .u64 (if p < 4 then m p else 0)) ∧ w = w' := by
 have hp0 : (0 : Int) ≤ (p : Int) := by omega
 have c : ∀ j, j < 4 → w.cell? ⟨B, j, none⟩ = some (.int .u64 (m j)) := fun j hj => h.cell hj
 have c0 := c 0 (by omega)
 have c1 := c 1 (by omega)
 have c2 := c 2 (by omega)
 have c3 := c 3 (by omega)
 have HC := Lib.hid c
 clear c
 by_cases hlt : p < 4
 ·rw [if_pos hlt]
  have cp := HC.out p hlt
  have hpI : (p : Int) < 4 := by omega
  have hpn : ¬ (4 : Int) ≤ (p : Int) := by omega
  clear h
  go_enter Tryz.func178, Tryz.ntmps178
  go_wp2
  go_ret
  exact ⟨rfl, rfl⟩
 ·rw [if_neg hlt]
  have hpn : (4 : Int) ≤ (p : Int) := by omega
  clear h
  go_enter Tryz.func178, Tryz.ntmps178
  go_wp2
  go_ret
  exact ⟨rfl, rfl⟩
theorem length4_any (B N : Nat) (m : Nat → Int) (hm : ∀ j, j < 4 → m j = ((N / 18446744073709551616 ^ j % 18446744073709551616 : Nat) : Int)) (hN : N < 18446744073709551616 ^ 4) (w : World) (h : Limbs w B 129 4 m) :
  Calls Tryz.prog 145 #[.pointer (some ⟨B, 0, none⟩)] w fun e w' => (∃ L : Nat, e = .returned (.int .i64 (L : Int)) ∧ LenOk N L ∧ L ≤ 256) ∧ w = w' := by
 have HC := Lib.hid (fun j hj => h.cell (j := j) hj)
 have HM := Lib.hid hm
 have HN := Lib.hid hN
 have c0 := HC.out 0 (by omega)
 have c1 := HC.out 1 (by omega)
 have c2 := HC.out 2 (by omega)
 have c3 := HC.out 3 (by omega)
 clear h hm hN
 go_enter Tryz.func145, Tryz.ntmps145
 go_wp2
 clear c0
 clear c1
 clear c2
 clear c3
 go_loop [3] (fun i => ∃ (z : Int) (q : Nat), i = .int .i64 z ∧ q ≤ 4 ∧ z = (q : Int) - 1 ∧ N < 18446744073709551616 ^ q) (fun i => (intOf i + 1).toNat)
 case atStart => exact ⟨_, 4, rfl, by omega, by omega, HN.out⟩
 case round =>
  obtain ⟨z, q, rfl, hq, hz, hlt⟩ := hrel
  by_cases hq0 : 0 < q
  ·obtain ⟨p, rfl⟩ : ∃ p, q = p + 1 := ⟨q - 1, by omega⟩
   obtain rfl : z = (p : Int) := by omega
   have hp : p < 4 := by omega
   have hp0 : (0 : Int) ≤ (p : Int) := by omega
   have hpI : (p : Int) < 4 := by omega
   have cp := HC.out p hp
   have mp := HM.out p hp
   have hx : N / 18446744073709551616 ^ p < 18446744073709551616 := by
    rw [Nat.div_lt_iff_lt_mul (Nat.pow_pos (by decide)), ← Nat.pow_succ']
    exact hlt
   rw [Nat.mod_eq_of_lt hx] at mp
   generalize hxe : N / 18446744073709551616 ^ p = x at *
   rw [mp] at cp
   have hx0 : (0 : Int) ≤ (x : Int) := by omega
   have hx1 : (x : Int) < 18446744073709551616 := by omega
   by_cases h0 : x = 0
   ·subst h0
    have HL : Hid (N < 18446744073709551616 ^ p) := by
     show _
     have := Nat.div_eq_zero_iff.1 hxe
     rcases this with h | h
     ·exact absurd h (Nat.ne_of_gt (Nat.pow_pos (by decide)))
     ·exact h
    have HP := Lib.hid hp
    clear hq hz hlt hq0 hp mp hx hxe
    go_wp2
    go_round
    case rel => exact ⟨(p : Int) - 1, p, by simp, by have := HP.out; omega, rfl, HL.out⟩
    case measure => first | (simp [intOf]; done) | (simp [intOf]; omega)
   ·have hxb : ((x : Int) != 0) = true := by simp; omega
    have HL := Lib.hid (lenOk_part N p x hx h0 hxe)
    have hb : Lib.bitLen x ≤ 64 := Lib.bitLen_le x 64 (by omega) hx
    have HP := Lib.hid hp
    have LL := len64_any (x : Int) w hx0 (by omega)
    rw [Int.toNat_natCast] at LL
    have HB := Lib.hid hb
    have b0 : (0 : Int) ≤ ((Lib.bitLen x : Nat) : Int) := by omega
    have b1 : ((Lib.bitLen x : Nat) : Int) ≤ 64 := by omega
    generalize Lib.bitLen x = lx at *
    clear hq hz hlt hq0 hp mp hx hxe h0 hb
    go_wp2_with fail
    refine LL.mono ?_
    rintro e w1 ⟨rfl, rfl⟩
    go_wp2
    go_ret
    refine ⟨⟨p * 64 + lx, ?_, HL.out, by have := HP.out; have := HB.out; omega⟩, rfl⟩
    simp
  ·obtain rfl : q = 0 := by omega
   obtain rfl : z = -1 := by omega
   have hN0 : N = 0 := by rw [Nat.pow_zero] at hlt; omega
   have HN0 := Lib.hid hN0
   clear hq hz hlt hq0 hN0
   go_wp2
   go_ret
   refine ⟨⟨0, rfl, by rw [HN0.out]; exact lenOk_zero, by omega⟩, rfl⟩
theorem part8_any (B p : Nat) (m : Nat → Int) (hp : p < 1152921504606846976) (w : World) (h : Limbs w B 143 8 m) :
  Calls Tryz.prog 182 #[.pointer (some ⟨B, 0, none⟩), .int .i64 (p : Int)] w fun e w' => e = .returned (.int .u64 (if p < 8 then m p else 0)) ∧ w = w' := by
 have hp0 : (0 : Int) ≤ (p : Int) := by omega
 have c : ∀ j, j < 8 → w.cell? ⟨B, j, none⟩ = some (.int .u64 (m j)) := fun j hj => h.cell hj
 have c0 := c 0 (by omega)
 have c1 := c 1 (by omega)
 have c2 := c 2 (by omega)
 have c3 := c 3 (by omega)
 have c4 := c 4 (by omega)
 have c5 := c 5 (by omega)
 have c6 := c 6 (by omega)
 have c7 := c 7 (by omega)
 have HC := Lib.hid c
 clear c
 by_cases hlt : p < 8
 ·rw [if_pos hlt]
  have cp := HC.out p hlt
  have hpI : (p : Int) < 8 := by omega
  have hpn : ¬ (8 : Int) ≤ (p : Int) := by omega
  clear h
  go_enter Tryz.func182, Tryz.ntmps182
  go_wp2
  go_ret
  exact ⟨rfl, rfl⟩
 ·rw [if_neg hlt]
  have hpn : (8 : Int) ≤ (p : Int) := by omega
  clear h
  go_enter Tryz.func182, Tryz.ntmps182
  go_wp2
  go_ret
  exact ⟨rfl, rfl⟩
theorem length8_any (B N : Nat) (m : Nat → Int) (hm : ∀ j, j < 8 → m j = ((N / 18446744073709551616 ^ j % 18446744073709551616 : Nat) : Int)) (hN : N < 18446744073709551616 ^ 8) (w : World) (h : Limbs w B 143 8 m) :
  Calls Tryz.prog 171 #[.pointer (some ⟨B, 0, none⟩)] w fun e w' => (∃ L : Nat, e = .returned (.int .i64 (L : Int)) ∧ LenOk N L ∧ L ≤ 512) ∧ w = w' := by
 have HC := Lib.hid (fun j hj => h.cell (j := j) hj)
 have HM := Lib.hid hm
 have HN := Lib.hid hN
 have c0 := HC.out 0 (by omega)
 have c1 := HC.out 1 (by omega)
 have c2 := HC.out 2 (by omega)
 have c3 := HC.out 3 (by omega)
 have c4 := HC.out 4 (by omega)
 have c5 := HC.out 5 (by omega)
 have c6 := HC.out 6 (by omega)
 have c7 := HC.out 7 (by omega)
 clear h hm hN
 go_enter Tryz.func171, Tryz.ntmps171
 go_wp2
 clear c0
 clear c1
 clear c2
 clear c3
 clear c4
 clear c5
 clear c6
 clear c7
 go_loop [3] (fun i => ∃ (z : Int) (q : Nat), i = .int .i64 z ∧ q ≤ 8 ∧ z = (q : Int) - 1 ∧ N < 18446744073709551616 ^ q) (fun i => (intOf i + 1).toNat)
 case atStart => exact ⟨_, 8, rfl, by omega, by omega, HN.out⟩
 case round =>
  obtain ⟨z, q, rfl, hq, hz, hlt⟩ := hrel
  by_cases hq0 : 0 < q
  ·obtain ⟨p, rfl⟩ : ∃ p, q = p + 1 := ⟨q - 1, by omega⟩
   obtain rfl : z = (p : Int) := by omega
   have hp : p < 8 := by omega
   have hp0 : (0 : Int) ≤ (p : Int) := by omega
   have hpI : (p : Int) < 8 := by omega
   have cp := HC.out p hp
   have mp := HM.out p hp
   have hx : N / 18446744073709551616 ^ p < 18446744073709551616 := by
    rw [Nat.div_lt_iff_lt_mul (Nat.pow_pos (by decide)), ← Nat.pow_succ']
    exact hlt
   rw [Nat.mod_eq_of_lt hx] at mp
   generalize hxe : N / 18446744073709551616 ^ p = x at *
   rw [mp] at cp
   have hx0 : (0 : Int) ≤ (x : Int) := by omega
   have hx1 : (x : Int) < 18446744073709551616 := by omega
   by_cases h0 : x = 0
   ·subst h0
    have HL : Hid (N < 18446744073709551616 ^ p) := by
     show _
     have := Nat.div_eq_zero_iff.1 hxe
     rcases this with h | h
     ·exact absurd h (Nat.ne_of_gt (Nat.pow_pos (by decide)))
     ·exact h
    have HP := Lib.hid hp
    clear hq hz hlt hq0 hp mp hx hxe
    go_wp2
    go_round
    case rel => exact ⟨(p : Int) - 1, p, by simp, by have := HP.out; omega, rfl, HL.out⟩
    case measure => first | (simp [intOf]; done) | (simp [intOf]; omega)
   ·have hxb : ((x : Int) != 0) = true := by simp; omega
    have HL := Lib.hid (lenOk_part N p x hx h0 hxe)
    have hb : Lib.bitLen x ≤ 64 := Lib.bitLen_le x 64 (by omega) hx
    have HP := Lib.hid hp
    have LL := len64_any (x : Int) w hx0 (by omega)
    rw [Int.toNat_natCast] at LL
    have HB := Lib.hid hb
    have b0 : (0 : Int) ≤ ((Lib.bitLen x : Nat) : Int) := by omega
    have b1 : ((Lib.bitLen x : Nat) : Int) ≤ 64 := by omega
    generalize Lib.bitLen x = lx at *
    clear hq hz hlt hq0 hp mp hx hxe h0 hb
    go_wp2_with fail
    refine LL.mono ?_
    rintro e w1 ⟨rfl, rfl⟩
    go_wp2
    go_ret
    refine ⟨⟨p * 64 + lx, ?_, HL.out, by have := HP.out; have := HB.out; omega⟩, rfl⟩
    simp
  ·obtain rfl : q = 0 := by omega
   obtain rfl : z = -1 := by omega
   have hN0 : N = 0 := by rw [Nat.pow_zero] at hlt; omega
   have HN0 := Lib.hid hN0
   clear hq hz hlt hq0 hN0
   go_wp2
   go_ret
   refine ⟨⟨0, rfl, by rw [HN0.out]; exact lenOk_zero, by omega⟩, rfl⟩
end
section
def dg (a t : Nat) : Nat := a / 256 ^ t % 256
theorem dg_lt (a t : Nat) : dg a t < 256 := Nat.mod_lt _ (by decide)
theorem dg_lim (a k i : Nat) (hk : k < 4) (hi : i < 8) : (lim a k / 256 ^ i) % 256 = (dg a (8 * k + i) : Int) := by
 unfold dg
 have h : ∀ x : Nat, ((x % 18446744073709551616 : Nat) : Int) / 256 ^ i % 256 = ((x / 256 ^ i % 256 : Nat) : Int) := by
  intro x
  have : i = 0 ∨ i = 1 ∨ i = 2 ∨ i = 3 ∨ i = 4 ∨ i = 5 ∨ i = 6 ∨ i = 7 := by omega
  rcases this with rfl | rfl | rfl | rfl | rfl | rfl | rfl | rfl <;> simp only [Nat.reducePow, Int.reducePow] <;> omega
 match k, hk with
 | 0, _ =>
  show ((a % 18446744073709551616 : Nat) : Int) / 256 ^ i % 256 = _
  rw [h a, Nat.mul_zero, Nat.zero_add]
 | 1, _ =>
  show ((a / 18446744073709551616 % 18446744073709551616 : Nat) : Int) / 256 ^ i % 256 = _
  rw [h, show (18446744073709551616 : Nat) = 256 ^ (8 * 1) by decide, Nat.div_div_eq_div_mul, ← Nat.pow_add]
 | 2, _ =>
  show ((a / 340282366920938463463374607431768211456 % 18446744073709551616 : Nat) : Int) / 256 ^ i % 256 = _
  rw [h, show (340282366920938463463374607431768211456 : Nat) = 256 ^ (8 * 2) by decide, Nat.div_div_eq_div_mul, ← Nat.pow_add]
 | 3, _ =>
  show ((a / 6277101735386680763835789423207666416102355444464034512896 % 18446744073709551616 : Nat) : Int) / 256 ^ i % 256 = _
  rw [h, show (6277101735386680763835789423207666416102355444464034512896 : Nat) = 256 ^ (8 * 3) by decide, Nat.div_div_eq_div_mul, ← Nat.pow_add]
theorem pow_le256 {m n : Nat} (h : m ≤ n) : (256 : Int) ^ m ≤ 256 ^ n := by
 have h1 : 256 ^ m ≤ 256 ^ n := Nat.pow_le_pow_right (by decide) h
 have h2 := Int.ofNat_le.2 h1
 rw [Int.natCast_pow, Int.natCast_pow] at h2
 exact h2
def valI (d : Nat → Int) : Nat → Int
 | 0 => 0
 | n + 1 => valI d n + d n * 256 ^ n
theorem valI_congr (d e : Nat → Int) : ∀ n, (∀ j, j < n → d j = e j) → valI d n = valI e n
 | 0, _ => rfl
 | n + 1, h => by rw [valI, valI, valI_congr d e n (fun j hj => h j (by omega)), h n (by omega)]
theorem valI_add (d : Nat → Int) (m : Nat) : ∀ n, valI d (m + n) = valI d m + valI (fun j => d (m + j)) n * 256 ^ m
 | 0 => by simp [valI]
 | n + 1 => by
  rw [← Nat.add_assoc, valI, valI, valI_add d m n, Int.pow_add, Int.add_mul, ← Int.add_assoc, Int.mul_assoc (d (m + n)), Int.mul_comm ((256 : Int) ^ m) (256 ^ n)]
theorem valI_sum (d e : Nat → Int) : ∀ n, valI (fun j => d j + e j) n = valI d n + valI e n
 | 0 => rfl
 | n + 1 => by rw [valI, valI, valI, valI_sum d e n, Int.add_mul]; omega
theorem valI_sub (d e : Nat → Int) : ∀ n, valI (fun j => d j - e j) n = valI d n - valI e n
 | 0 => rfl
 | n + 1 => by rw [valI, valI, valI, valI_sub d e n, Int.sub_mul]; omega
theorem valI_zero : ∀ n, valI (fun _ => 0) n = 0
 | 0 => rfl
 | n + 1 => by rw [valI, valI_zero n]; simp
theorem valI_set (d : Nat → Int) (k : Nat) (v : Int) : ∀ n, k < n → valI (fun j => if j = k then v else d j) n = valI d n + (v - d k) * 256 ^ k
 | 0, h => by omega
 | n + 1, h => by
  rw [valI, valI]
  by_cases e : n = k
  ·subst e
   rw [valI_congr (fun j => if j = n then v else d j) d n (fun j hj => if_neg (by omega)), if_pos rfl, Int.sub_mul]
   omega
  ·rw [valI_set d k v n (by omega), if_neg e]
   omega
theorem valI_dg (a : Nat) : ∀ n, valI (fun j => (dg a j : Int)) n = ((a % 256 ^ n : Nat) : Int)
 | 0 => by simp [valI, Nat.mod_one]
 | n + 1 => by
  rw [valI, valI_dg a n, Nat.pow_succ, Nat.mod_mul]
  unfold dg
  rw [Int.natCast_add, Int.natCast_mul, Int.natCast_pow, Int.mul_comm]
  rfl
theorem p256 : (256 : Int) ^ 32 = 115792089237316195423570985008687907853269984665640564039457584007913129639936 := by decide
theorem n256 : (256 : Nat) ^ 32 = 115792089237316195423570985008687907853269984665640564039457584007913129639936 := by decide
theorem valI_word (a : Nat) (ha : W256 a) : valI (fun j => (dg a j : Int)) 32 = (a : Int) := by
 rw [valI_dg, n256]
 unfold W256 at ha
 rw [Nat.mod_eq_of_lt ha]
theorem valI_bound (d : Nat → Int) (h : ∀ j, 0 ≤ d j ∧ d j < 256) : ∀ n, 0 ≤ valI d n ∧ valI d n < 256 ^ n
 | 0 => by simp [valI]
 | n + 1 => by
  obtain ⟨h1, h2⟩ := valI_bound d h n
  obtain ⟨h3, h4⟩ := h n
  have hp : (0 : Int) < 256 ^ n := Int.pow_pos (by decide)
  rw [valI, Int.pow_succ]
  generalize (256 : Int) ^ n = M at *
  have e1 : 0 ≤ d n * M := Int.mul_nonneg h3 (Int.le_of_lt hp)
  have e2 : (d n + 1) * M ≤ 256 * M := Int.mul_le_mul_of_nonneg_right (by omega) (Int.le_of_lt hp)
  rw [Int.add_mul] at e2
  constructor <;> omega
def cyD (d : Nat → Int) : Nat → Int
 | 0 => 0
 | j + 1 => (d j + cyD d j) / 256
def rD (d : Nat → Int) (j : Nat) : Int := (d j + cyD d j) % 256
theorem rD_range (d : Nat → Int) (j : Nat) : 0 ≤ rD d j ∧ rD d j < 256 := by unfold rD; constructor <;> omega
theorem cyD_bound (d : Nat → Int) (h : ∀ j, -4194304 ≤ d j ∧ d j ≤ 4194304) : ∀ j, -4194304 ≤ cyD d j ∧ cyD d j ≤ 4194304
 | 0 => by simp [cyD]
 | j + 1 => by
  have h1 := h j
  have h2 := cyD_bound d h j
  unfold cyD
  constructor <;> omega
theorem carry_sum (d : Nat → Int) : ∀ n, valI (rD d) n + cyD d n * 256 ^ n = valI d n
 | 0 => by simp [valI, cyD]
 | n + 1 => by
  have ih := carry_sum d n
  have h : rD d n = d n + cyD d n - 256 * cyD d (n + 1) := by
   show (d n + cyD d n) % 256 = d n + cyD d n - 256 * ((d n + cyD d n) / 256)
   omega
  rw [valI, valI, h, ← ih, Int.pow_succ, Int.sub_mul, Int.add_mul]
  generalize (256 : Int) ^ n = M
  have e : cyD d (n + 1) * (M * 256) = 256 * cyD d (n + 1) * M := by
   rw [Int.mul_comm M 256, ← Int.mul_assoc, Int.mul_comm (cyD d (n + 1)) 256]
  rw [e]
  omega
theorem carried_num (d : Nat → Int) (N : Nat) (q : Int) (h : valI d 32 = (N : Int) + q * 115792089237316195423570985008687907853269984665640564039457584007913129639936) : (valI (rD d) 32).toNat = wmod N := by
 have h1 := carry_sum d 32
 obtain ⟨h2, h3⟩ := valI_bound (rD d) (rD_range d) 32
 rw [p256] at h1 h3
 unfold wmod
 generalize valI (rD d) 32 = v at *
 generalize cyD d 32 = c at *
 omega
def hor (d : Nat → Int) (p : Nat) : Nat → Int
 | 0 => 0
 | m + 1 => hor d p m * 256 + d (8 * p + 7 - m)
theorem hor_bound (d : Nat → Int) (p : Nat) (h : ∀ j, 0 ≤ d j ∧ d j < 256) : ∀ m, 0 ≤ hor d p m ∧ hor d p m < 256 ^ m
 | 0 => by simp [hor]
 | m + 1 => by
  obtain ⟨h1, h2⟩ := hor_bound d p h m
  obtain ⟨h3, h4⟩ := h (8 * p + 7 - m)
  rw [hor, Int.pow_succ]
  constructor <;> omega
theorem hor_none (d : Nat → Int) (p n : Nat) (hz : ∀ j, n ≤ j → d j = 0) : ∀ m, m ≤ 8 → n + m ≤ 8 * p + 8 → hor d p m = 0
 | 0, _, _ => rfl
 | m + 1, h, h2 => by rw [hor, hor_none d p n hz m (by omega) (by omega), hz _ (by omega)]; rfl
theorem hor_eight (d : Nat → Int) (p : Nat) : hor d p 8 = valI (fun j => d (8 * p + j)) 8 := by
 simp only [hor, valI, Nat.sub_zero, Int.pow_zero, Int.reducePow, Nat.reduceSub]
 rw [show 8 * p + 7 - 1 = 8 * p + 6 by omega, show 8 * p + 7 - 2 = 8 * p + 5 by omega, show 8 * p + 7 - 3 = 8 * p + 4 by omega, show 8 * p + 7 - 4 = 8 * p + 3 by omega, show 8 * p + 7 - 5 = 8 * p + 2 by omega, show 8 * p + 7 - 6 = 8 * p + 1 by omega, show 8 * p + 7 - 7 = 8 * p by omega]
 simp only [Nat.add_zero]
 omega
def fdAt (d : Nat → Int) (k p : Nat) : Int := hor d p (min 8 (8 * p + 8 - k))
theorem fdAt_step (d : Nat → Int) (i : Nat) (p : Nat) (hp : p = i / 8) : fdAt d i = fun j => if j = p then fdAt d (i + 1) p * 256 + d i else fdAt d (i + 1) j := by
 funext j
 unfold fdAt
 by_cases h : j = p
 ·subst h
  rw [if_pos rfl, show min 8 (8 * j + 8 - i) = (8 * j + 7 - i) + 1 by omega, show min 8 (8 * j + 8 - (i + 1)) = 8 * j + 7 - i by omega, hor, show 8 * j + 7 - (8 * j + 7 - i) = i by omega]
 ·rw [if_neg h]
  congr 1
  omega
theorem fdAt_start (d : Nat → Int) (n : Nat) (hz : ∀ j, n ≤ j → d j = 0) (p : Nat) (hp : p < 4) : fdAt d (min n 32) p = 0 := by
 unfold fdAt
 by_cases h : n ≤ 8 * p + 8
 ·by_cases h2 : min 8 (8 * p + 8 - min n 32) = 8
  ·rw [h2]
   exact hor_none d p n hz 8 (by omega) (by omega)
  ·exact hor_none d p n hz _ (by omega) (by omega)
 ·rw [show min 8 (8 * p + 8 - min n 32) = 0 by omega]; rfl
theorem fdAt_u64 (d : Nat → Int) (h : ∀ j, 0 ≤ d j ∧ d j < 256) (k p : Nat) : U64 (fdAt d k p) := by
 unfold fdAt U64
 obtain ⟨h1, h2⟩ := hor_bound d p h (min 8 (8 * p + 8 - k))
 refine ⟨h1, Int.lt_of_lt_of_le h2 ?_⟩
 have : (256 : Int) ^ (min 8 (8 * p + 8 - k)) ≤ 256 ^ 8 := pow_le256 (by omega)
 exact this
theorem fdAt_room (d : Nat → Int) (h : ∀ j, 0 ≤ d j ∧ d j < 256) (i p : Nat) (hp : p = i / 8) : 0 ≤ fdAt d (i + 1) p ∧ fdAt d (i + 1) p < 72057594037927936 := by
 unfold fdAt
 obtain ⟨h1, h2⟩ := hor_bound d p h (min 8 (8 * p + 8 - (i + 1)))
 refine ⟨h1, Int.lt_of_lt_of_le h2 ?_⟩
 have : (256 : Int) ^ (min 8 (8 * p + 8 - (i + 1))) ≤ 256 ^ 7 := pow_le256 (by omega)
 exact this
theorem fd_parts (d : Nat → Int) (h : ∀ j, 0 ≤ d j ∧ d j < 256) : lim (valI d 32).toNat 0 = fdAt d 0 0 ∧ lim (valI d 32).toNat 1 = fdAt d 0 1 ∧ lim (valI d 32).toNat 2 = fdAt d 0 2 ∧ lim (valI d 32).toNat 3 = fdAt d 0 3 := by
 refine lim_num (fdAt d 0) _ (fdAt_u64 d h 0 0) (fdAt_u64 d h 0 1) (fdAt_u64 d h 0 2) (fdAt_u64 d h 0 3) ?_
 rw [Int.toNat_of_nonneg (valI_bound d h 32).1]
 have e0 : fdAt d 0 0 = valI (fun j => d (8 * 0 + j)) 8 := hor_eight d 0
 have e1 : fdAt d 0 1 = valI (fun j => d (8 * 1 + j)) 8 := hor_eight d 1
 have e2 : fdAt d 0 2 = valI (fun j => d (8 * 2 + j)) 8 := hor_eight d 2
 have e3 : fdAt d 0 3 = valI (fun j => d (8 * 3 + j)) 8 := hor_eight d 3
 have f1 := valI_add d 24 8
 have f2 := valI_add d 16 8
 have f3 := valI_add d 8 8
 have f4 : valI d 8 = fdAt d 0 0 := by
  rw [e0]; exact valI_congr _ _ 8 (fun j _ => by rw [Nat.mul_zero, Nat.zero_add])
 unfold num
 rw [show valI d 32 = valI d (24 + 8) from rfl, f1, show valI d 24 = valI d (16 + 8) from rfl, f2, show valI d 16 = valI d (8 + 8) from rfl, f3, f4, e1, e2, e3]
 rfl
theorem mul_end (x y i : Nat) (hy : W256 y) (hi : i ≤ 32) (M : Int) : ∃ q : Int, M * 256 ^ i * valI (fun j => (dg y j : Int)) (32 - i) = M * 256 ^ i * y + q * 115792089237316195423570985008687907853269984665640564039457584007913129639936 := by
 have h := valI_add (fun j => (dg y j : Int)) (32 - i) i
 rw [show 32 - i + i = 32 by omega, valI_word y hy] at h
 refine ⟨- (M * valI (fun j => (dg y (32 - i + j) : Int)) i), ?_⟩
 rw [h, Int.mul_add]
 have e : M * 256 ^ i * (valI (fun j => (dg y (32 - i + j) : Int)) i * 256 ^ (32 - i)) = M * valI (fun j => (dg y (32 - i + j) : Int)) i * 115792089237316195423570985008687907853269984665640564039457584007913129639936 := by
  rw [← p256, show (256 : Int) ^ 32 = 256 ^ i * 256 ^ (32 - i) by rw [← Int.pow_add]; congr 1; omega]
  generalize valI (fun j => (dg y (32 - i + j) : Int)) i = v
  generalize (256 : Int) ^ i = A
  generalize (256 : Int) ^ (32 - i) = B
  rw [Int.mul_assoc M A, ← Int.mul_assoc A v B, Int.mul_comm A v, Int.mul_assoc v A B, ← Int.mul_assoc M v]
 rw [e, Int.neg_mul]
 omega
end
end Go.Proofs.YtnkhmgmganejmaaGreatDoor
