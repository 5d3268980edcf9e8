/- Part. -/
import Derived.Test.YtnkhmgmganejmaaGreatDoorG09
import Derived.Lib.BitFns
import Derived.Lib.ItoaNum
import Derived.Test.YtnkhmgmganejmaaGreatDoorG03
set_option maxRecDepth 100000
set_option maxHeartbeats 16000000
namespace Go.Proofs.YtnkhmgmganejmaaGreatDoor
section
open Go Go.RowKit
attribute [local go_sem] Oper.semAt_some Grows wide_fn
theorem byte_far (zi za : Nat → Int) (_n : Nat) (h1 : Ret Tryz.prog 146 #[.agg #[.int .u64 (zi 0), .int .u64 (zi 1), .int .u64 (zi 2), .int .u64 (zi 3)]] (.tuple #[.int .i64 0, .bool false])) :
  Ret Tryz.prog 125 #[.agg #[.int .u64 (zi 0), .int .u64 (zi 1), .int .u64 (zi 2), .int .u64 (zi 3)], .agg #[.int .u64 (za 0), .int .u64 (za 1), .int .u64 (za 2), .int .u64 (za 3)]] (.agg #[.int .u64 0, .int .u64 0, .int .u64 0, .int .u64 0]) := by
 intro w
 have Hh1 := hid h1
 clear h1
 go_enter Tryz.func125, Tryz.ntmps125
 have LI := Has.new w 24 #[.int .u64 (zi 0), .int .u64 (zi 1), .int .u64 (zi 2), .int .u64 (zi 3)]
 have k1 := LI.cell 0 _ rfl
 have k2 := LI.cell 1 _ rfl
 have k3 := LI.cell 2 _ rfl
 have k4 := LI.cell 3 _ rfl
 have LI := LI.alloc (.cells #[.int .u64 (za 0), .int .u64 (za 1), .int .u64 (za 2), .int .u64 (za 3)] 24)
 have LA := Has.new (w.alloc (.cells #[.int .u64 (zi 0), .int .u64 (zi 1), .int .u64 (zi 2), .int .u64 (zi 3)] 24)) 24 #[.int .u64 (za 0), .int .u64 (za 1), .int .u64 (za 2), .int .u64 (za 3)]
 simp only [World.size_alloc] at LA
 have k5 := LI.cell 0 _ rfl
 have k6 := LI.cell 1 _ rfl
 have k7 := LI.cell 2 _ rfl
 have k8 := LI.cell 3 _ rfl
 have k9 := LA.cell 0 _ rfl
 have k10 := LA.cell 1 _ rfl
 have k11 := LA.cell 2 _ rfl
 have k12 := LA.cell 3 _ rfl
 have LI := LI.alloc (.cells #[.int .u64 0, .int .u64 0, .int .u64 0, .int .u64 0] 24)
 have LA := LA.alloc (.cells #[.int .u64 0, .int .u64 0, .int .u64 0, .int .u64 0] 24)
 have LR := Has.new ((w.alloc (.cells #[.int .u64 (zi 0), .int .u64 (zi 1), .int .u64 (zi 2), .int .u64 (zi 3)] 24)).alloc (.cells #[.int .u64 (za 0), .int .u64 (za 1), .int .u64 (za 2), .int .u64 (za 3)] 24)) 24 #[.int .u64 0, .int .u64 0, .int .u64 0, .int .u64 0]
 simp only [World.size_alloc] at LR
 have k13 := LI.cell 0 _ rfl
 have k14 := LI.cell 1 _ rfl
 have k15 := LI.cell 2 _ rfl
 have k16 := LI.cell 3 _ rfl
 have k17 := LA.cell 0 _ rfl
 have k18 := LA.cell 1 _ rfl
 have k19 := LA.cell 2 _ rfl
 have k20 := LA.cell 3 _ rfl
 have k21 := LR.cell 0 _ rfl
 have k22 := LR.cell 1 _ rfl
 have k23 := LR.cell 2 _ rfl
 have k24 := LR.cell 3 _ rfl
 have Q := (Below.refl w.heap.size w)
 have Q := Q.alloc Q.size (.cells #[.int .u64 (zi 0), .int .u64 (zi 1), .int .u64 (zi 2), .int .u64 (zi 3)] 24)
 have Q := Q.alloc Q.size (.cells #[.int .u64 (za 0), .int .u64 (za 1), .int .u64 (za 2), .int .u64 (za 3)] 24)
 have Q := Q.alloc Q.size (.cells #[.int .u64 0, .int .u64 0, .int .u64 0, .int .u64 0] 24)
 go_wp2_with fail
 clear k1 k2 k3 k4 k5 k6 k7 k8 k9 k10 k11 k12 k13 k14 k15 k16 k17 k18 k19 k20 k21 k22 k23 k24
 obtain ⟨W1, hW1⟩ : ∃ W1, (((w.alloc (.cells #[.int .u64 (zi 0), .int .u64 (zi 1), .int .u64 (zi 2), .int .u64 (zi 3)] 24)).alloc (.cells #[.int .u64 (za 0), .int .u64 (za 1), .int .u64 (za 2), .int .u64 (za 3)] 24)).alloc (.cells #[.int .u64 0, .int .u64 0, .int .u64 0, .int .u64 0] 24)) = W1 := ⟨_, rfl⟩
 rw [hW1] at LI LA LR Q ⊢
 clear hW1
 refine (Hh1.out _).mono ?_
 rintro e v25 ⟨rfl, q⟩
 have LI := LI.later q
 have LA := LA.later q
 have LR := LR.later q
 have Q := Q.trans (q.mono Q.size)
 clear q
 have r0 := LR.cell 0 _ rfl
 have z0 := LR.frozen 0
 have r1 := LR.cell 1 _ rfl
 have z1 := LR.frozen 1
 have r2 := LR.cell 2 _ rfl
 have z2 := LR.frozen 2
 have r3 := LR.cell 3 _ rfl
 have z3 := LR.frozen 3
 have k26 := LI.cell 0 _ rfl
 have k27 := LI.cell 1 _ rfl
 have k28 := LI.cell 2 _ rfl
 have k29 := LI.cell 3 _ rfl
 have k30 := LA.cell 0 _ rfl
 have k31 := LA.cell 1 _ rfl
 have k32 := LA.cell 2 _ rfl
 have k33 := LA.cell 3 _ rfl
 have HR := hid (((((LR.set 0 (.int .u64 0)).set 1 (.int .u64 0)).set 2 (.int .u64 0)).set 3 (.int .u64 0)))
 have HQ := hid (((((Q.setCell (p := ⟨w.heap.size + 1 + 1, 0, none⟩) (show w.heap.size ≤ _ by simp; first | done | omega) (.int .u64 0)).setCell (p := ⟨w.heap.size + 1 + 1, 1, none⟩) (show w.heap.size ≤ _ by simp; first | done | omega) (.int .u64 0)).setCell (p := ⟨w.heap.size + 1 + 1, 2, none⟩) (show w.heap.size ≤ _ by simp; first | done | omega) (.int .u64 0)).setCell (p := ⟨w.heap.size + 1 + 1, 3, none⟩) (show w.heap.size ≤ _ by simp; first | done | omega) (.int .u64 0)))
 clear Q LI LA LR
 go_wp2
 refine bodyPost_ret (results_word (m := fun _ => 0) rfl rfl HR.out) rfl ⟨rfl, HQ.out⟩
theorem byte_out (zi za : Nat → Int) (n : Nat) (hn : 32 ≤ (n : Int)) (h1 : Ret Tryz.prog 146 #[.agg #[.int .u64 (zi 0), .int .u64 (zi 1), .int .u64 (zi 2), .int .u64 (zi 3)]] (.tuple #[.int .i64 (n : Int), .bool true])) :
  Ret Tryz.prog 125 #[.agg #[.int .u64 (zi 0), .int .u64 (zi 1), .int .u64 (zi 2), .int .u64 (zi 3)], .agg #[.int .u64 (za 0), .int .u64 (za 1), .int .u64 (za 2), .int .u64 (za 3)]] (.agg #[.int .u64 0, .int .u64 0, .int .u64 0, .int .u64 0]) := by
 intro w
 have Hh1 := hid h1
 clear h1
 go_enter Tryz.func125, Tryz.ntmps125
 have LI := Has.new w 24 #[.int .u64 (zi 0), .int .u64 (zi 1), .int .u64 (zi 2), .int .u64 (zi 3)]
 have k1 := LI.cell 0 _ rfl
 have k2 := LI.cell 1 _ rfl
 have k3 := LI.cell 2 _ rfl
 have k4 := LI.cell 3 _ rfl
 have LI := LI.alloc (.cells #[.int .u64 (za 0), .int .u64 (za 1), .int .u64 (za 2), .int .u64 (za 3)] 24)
 have LA := Has.new (w.alloc (.cells #[.int .u64 (zi 0), .int .u64 (zi 1), .int .u64 (zi 2), .int .u64 (zi 3)] 24)) 24 #[.int .u64 (za 0), .int .u64 (za 1), .int .u64 (za 2), .int .u64 (za 3)]
 simp only [World.size_alloc] at LA
 have k5 := LI.cell 0 _ rfl
 have k6 := LI.cell 1 _ rfl
 have k7 := LI.cell 2 _ rfl
 have k8 := LI.cell 3 _ rfl
 have k9 := LA.cell 0 _ rfl
 have k10 := LA.cell 1 _ rfl
 have k11 := LA.cell 2 _ rfl
 have k12 := LA.cell 3 _ rfl
 have LI := LI.alloc (.cells #[.int .u64 0, .int .u64 0, .int .u64 0, .int .u64 0] 24)
 have LA := LA.alloc (.cells #[.int .u64 0, .int .u64 0, .int .u64 0, .int .u64 0] 24)
 have LR := Has.new ((w.alloc (.cells #[.int .u64 (zi 0), .int .u64 (zi 1), .int .u64 (zi 2), .int .u64 (zi 3)] 24)).alloc (.cells #[.int .u64 (za 0), .int .u64 (za 1), .int .u64 (za 2), .int .u64 (za 3)] 24)) 24 #[.int .u64 0, .int .u64 0, .int .u64 0, .int .u64 0]
 simp only [World.size_alloc] at LR
 have k13 := LI.cell 0 _ rfl
 have k14 := LI.cell 1 _ rfl
 have k15 := LI.cell 2 _ rfl
 have k16 := LI.cell 3 _ rfl
 have k17 := LA.cell 0 _ rfl
 have k18 := LA.cell 1 _ rfl
 have k19 := LA.cell 2 _ rfl
 have k20 := LA.cell 3 _ rfl
 have k21 := LR.cell 0 _ rfl
 have k22 := LR.cell 1 _ rfl
 have k23 := LR.cell 2 _ rfl
 have k24 := LR.cell 3 _ rfl
 have Q := (Below.refl w.heap.size w)
 have Q := Q.alloc Q.size (.cells #[.int .u64 (zi 0), .int .u64 (zi 1), .int .u64 (zi 2), .int .u64 (zi 3)] 24)
 have Q := Q.alloc Q.size (.cells #[.int .u64 (za 0), .int .u64 (za 1), .int .u64 (za 2), .int .u64 (za 3)] 24)
 have Q := Q.alloc Q.size (.cells #[.int .u64 0, .int .u64 0, .int .u64 0, .int .u64 0] 24)
 go_wp2_with fail
 clear k1 k2 k3 k4 k5 k6 k7 k8 k9 k10 k11 k12 k13 k14 k15 k16 k17 k18 k19 k20 k21 k22 k23 k24
 obtain ⟨W1, hW1⟩ : ∃ W1, (((w.alloc (.cells #[.int .u64 (zi 0), .int .u64 (zi 1), .int .u64 (zi 2), .int .u64 (zi 3)] 24)).alloc (.cells #[.int .u64 (za 0), .int .u64 (za 1), .int .u64 (za 2), .int .u64 (za 3)] 24)).alloc (.cells #[.int .u64 0, .int .u64 0, .int .u64 0, .int .u64 0] 24)) = W1 := ⟨_, rfl⟩
 rw [hW1] at LI LA LR Q ⊢
 clear hW1
 refine (Hh1.out _).mono ?_
 rintro e v25 ⟨rfl, q⟩
 have LI := LI.later q
 have LA := LA.later q
 have LR := LR.later q
 have Q := Q.trans (q.mono Q.size)
 clear q
 have r0 := LR.cell 0 _ rfl
 have z0 := LR.frozen 0
 have r1 := LR.cell 1 _ rfl
 have z1 := LR.frozen 1
 have r2 := LR.cell 2 _ rfl
 have z2 := LR.frozen 2
 have r3 := LR.cell 3 _ rfl
 have z3 := LR.frozen 3
 have k26 := LI.cell 0 _ rfl
 have k27 := LI.cell 1 _ rfl
 have k28 := LI.cell 2 _ rfl
 have k29 := LI.cell 3 _ rfl
 have k30 := LA.cell 0 _ rfl
 have k31 := LA.cell 1 _ rfl
 have k32 := LA.cell 2 _ rfl
 have k33 := LA.cell 3 _ rfl
 have HR := hid (((((LR.set 0 (.int .u64 0)).set 1 (.int .u64 0)).set 2 (.int .u64 0)).set 3 (.int .u64 0)))
 have HQ := hid (((((Q.setCell (p := ⟨w.heap.size + 1 + 1, 0, none⟩) (show w.heap.size ≤ _ by simp; first | done | omega) (.int .u64 0)).setCell (p := ⟨w.heap.size + 1 + 1, 1, none⟩) (show w.heap.size ≤ _ by simp; first | done | omega) (.int .u64 0)).setCell (p := ⟨w.heap.size + 1 + 1, 2, none⟩) (show w.heap.size ≤ _ by simp; first | done | omega) (.int .u64 0)).setCell (p := ⟨w.heap.size + 1 + 1, 3, none⟩) (show w.heap.size ≤ _ by simp; first | done | omega) (.int .u64 0)))
 clear Q LI LA LR
 go_wp2
 refine bodyPost_ret (results_word (m := fun _ => 0) rfl rfl HR.out) rfl ⟨rfl, HQ.out⟩
theorem byte_in (zi za z : Nat → Int) (n : Nat) (s : ByteArray) (hn : (n : Int) < 32) (hs : (s.size : Int) = 32) (hk : n < s.size) (h1 : Ret Tryz.prog 146 #[.agg #[.int .u64 (zi 0), .int .u64 (zi 1), .int .u64 (zi 2), .int .u64 (zi 3)]] (.tuple #[.int .i64 (n : Int), .bool true])) (h2 : Ret Tryz.prog 153 #[.agg #[.int .u64 (za 0), .int .u64 (za 1), .int .u64 (za 2), .int .u64 (za 3)]] (.string s)) (h3 : Ret Tryz.prog 134 #[.int .i64 (s[n].toNat : Int)] (.agg #[.int .u64 (z 0), .int .u64 (z 1), .int .u64 (z 2), .int .u64 (z 3)])) :
  Ret Tryz.prog 125 #[.agg #[.int .u64 (zi 0), .int .u64 (zi 1), .int .u64 (zi 2), .int .u64 (zi 3)], .agg #[.int .u64 (za 0), .int .u64 (za 1), .int .u64 (za 2), .int .u64 (za 3)]] (.agg #[.int .u64 (z 0), .int .u64 (z 1), .int .u64 (z 2), .int .u64 (z 3)]) := by
 intro w
 have hb0 : (0 : Int) ≤ (s[n].toNat : Int) := by omega
 have hb1 : (s[n].toNat : Int) < 256 := by have := s[n].toNat_lt; omega
 have hn0 : (0 : Int) ≤ (n : Int) := by omega
 have hn1 : ¬ 32 ≤ (n : Int) := by omega
 have Hh1 := hid h1
 have Hh2 := hid h2
 have Hh3 := hid h3
 clear h1 h2 h3
 go_enter Tryz.func125, Tryz.ntmps125
 have LI := Has.new w 24 #[.int .u64 (zi 0), .int .u64 (zi 1), .int .u64 (zi 2), .int .u64 (zi 3)]
 have k1 := LI.cell 0 _ rfl
 have k2 := LI.cell 1 _ rfl
 have k3 := LI.cell 2 _ rfl
 have k4 := LI.cell 3 _ rfl
 have LI := LI.alloc (.cells #[.int .u64 (za 0), .int .u64 (za 1), .int .u64 (za 2), .int .u64 (za 3)] 24)
 have LA := Has.new (w.alloc (.cells #[.int .u64 (zi 0), .int .u64 (zi 1), .int .u64 (zi 2), .int .u64 (zi 3)] 24)) 24 #[.int .u64 (za 0), .int .u64 (za 1), .int .u64 (za 2), .int .u64 (za 3)]
 simp only [World.size_alloc] at LA
 have k5 := LI.cell 0 _ rfl
 have k6 := LI.cell 1 _ rfl
 have k7 := LI.cell 2 _ rfl
 have k8 := LI.cell 3 _ rfl
 have k9 := LA.cell 0 _ rfl
 have k10 := LA.cell 1 _ rfl
 have k11 := LA.cell 2 _ rfl
 have k12 := LA.cell 3 _ rfl
 have LI := LI.alloc (.cells #[.int .u64 0, .int .u64 0, .int .u64 0, .int .u64 0] 24)
 have LA := LA.alloc (.cells #[.int .u64 0, .int .u64 0, .int .u64 0, .int .u64 0] 24)
 have LR := Has.new ((w.alloc (.cells #[.int .u64 (zi 0), .int .u64 (zi 1), .int .u64 (zi 2), .int .u64 (zi 3)] 24)).alloc (.cells #[.int .u64 (za 0), .int .u64 (za 1), .int .u64 (za 2), .int .u64 (za 3)] 24)) 24 #[.int .u64 0, .int .u64 0, .int .u64 0, .int .u64 0]
 simp only [World.size_alloc] at LR
 have k13 := LI.cell 0 _ rfl
 have k14 := LI.cell 1 _ rfl
 have k15 := LI.cell 2 _ rfl
 have k16 := LI.cell 3 _ rfl
 have k17 := LA.cell 0 _ rfl
 have k18 := LA.cell 1 _ rfl
 have k19 := LA.cell 2 _ rfl
 have k20 := LA.cell 3 _ rfl
 have k21 := LR.cell 0 _ rfl
 have k22 := LR.cell 1 _ rfl
 have k23 := LR.cell 2 _ rfl
 have k24 := LR.cell 3 _ rfl
 have Q := (Below.refl w.heap.size w)
 have Q := Q.alloc Q.size (.cells #[.int .u64 (zi 0), .int .u64 (zi 1), .int .u64 (zi 2), .int .u64 (zi 3)] 24)
 have Q := Q.alloc Q.size (.cells #[.int .u64 (za 0), .int .u64 (za 1), .int .u64 (za 2), .int .u64 (za 3)] 24)
 have Q := Q.alloc Q.size (.cells #[.int .u64 0, .int .u64 0, .int .u64 0, .int .u64 0] 24)
 go_wp2_with fail
 clear k1 k2 k3 k4 k5 k6 k7 k8 k9 k10 k11 k12 k13 k14 k15 k16 k17 k18 k19 k20 k21 k22 k23 k24
 obtain ⟨W1, hW1⟩ : ∃ W1, (((w.alloc (.cells #[.int .u64 (zi 0), .int .u64 (zi 1), .int .u64 (zi 2), .int .u64 (zi 3)] 24)).alloc (.cells #[.int .u64 (za 0), .int .u64 (za 1), .int .u64 (za 2), .int .u64 (za 3)] 24)).alloc (.cells #[.int .u64 0, .int .u64 0, .int .u64 0, .int .u64 0] 24)) = W1 := ⟨_, rfl⟩
 rw [hW1] at LI LA LR Q ⊢
 clear hW1
 refine (Hh1.out _).mono ?_
 rintro e v25 ⟨rfl, q⟩
 have LI := LI.later q
 have LA := LA.later q
 have LR := LR.later q
 have Q := Q.trans (q.mono Q.size)
 clear q
 have k26 := LI.cell 0 _ rfl
 have k27 := LI.cell 1 _ rfl
 have k28 := LI.cell 2 _ rfl
 have k29 := LI.cell 3 _ rfl
 have k30 := LA.cell 0 _ rfl
 have k31 := LA.cell 1 _ rfl
 have k32 := LA.cell 2 _ rfl
 have k33 := LA.cell 3 _ rfl
 have k34 := LR.cell 0 _ rfl
 have k35 := LR.cell 1 _ rfl
 have k36 := LR.cell 2 _ rfl
 have k37 := LR.cell 3 _ rfl
 go_wp2_with fail
 clear k26 k27 k28 k29 k30 k31 k32 k33 k34 k35 k36 k37
 refine (Hh2.out _).mono ?_
 rintro e v38 ⟨rfl, q⟩
 have LI := LI.later q
 have LA := LA.later q
 have LR := LR.later q
 have Q := Q.trans (q.mono Q.size)
 clear q
 have k39 := LI.cell 0 _ rfl
 have k40 := LI.cell 1 _ rfl
 have k41 := LI.cell 2 _ rfl
 have k42 := LI.cell 3 _ rfl
 have k43 := LA.cell 0 _ rfl
 have k44 := LA.cell 1 _ rfl
 have k45 := LA.cell 2 _ rfl
 have k46 := LA.cell 3 _ rfl
 have k47 := LR.cell 0 _ rfl
 have k48 := LR.cell 1 _ rfl
 have k49 := LR.cell 2 _ rfl
 have k50 := LR.cell 3 _ rfl
 go_wp2_with fail
 clear k39 k40 k41 k42 k43 k44 k45 k46 k47 k48 k49 k50
 refine (Hh3.out _).mono ?_
 rintro e v51 ⟨rfl, q⟩
 have LI := LI.later q
 have LA := LA.later q
 have LR := LR.later q
 have Q := Q.trans (q.mono Q.size)
 clear q
 have r0 := LR.cell 0 _ rfl
 have z0 := LR.frozen 0
 have r1 := LR.cell 1 _ rfl
 have z1 := LR.frozen 1
 have r2 := LR.cell 2 _ rfl
 have z2 := LR.frozen 2
 have r3 := LR.cell 3 _ rfl
 have z3 := LR.frozen 3
 have k52 := LI.cell 0 _ rfl
 have k53 := LI.cell 1 _ rfl
 have k54 := LI.cell 2 _ rfl
 have k55 := LI.cell 3 _ rfl
 have k56 := LA.cell 0 _ rfl
 have k57 := LA.cell 1 _ rfl
 have k58 := LA.cell 2 _ rfl
 have k59 := LA.cell 3 _ rfl
 have HR := hid (((((LR.set 0 (.int .u64 (z 0))).set 1 (.int .u64 (z 1))).set 2 (.int .u64 (z 2))).set 3 (.int .u64 (z 3))))
 have HQ := hid (((((Q.setCell (p := ⟨w.heap.size + 1 + 1, 0, none⟩) (show w.heap.size ≤ _ by simp; first | done | omega) (.int .u64 (z 0))).setCell (p := ⟨w.heap.size + 1 + 1, 1, none⟩) (show w.heap.size ≤ _ by simp; first | done | omega) (.int .u64 (z 1))).setCell (p := ⟨w.heap.size + 1 + 1, 2, none⟩) (show w.heap.size ≤ _ by simp; first | done | omega) (.int .u64 (z 2))).setCell (p := ⟨w.heap.size + 1 + 1, 3, none⟩) (show w.heap.size ≤ _ by simp; first | done | omega) (.int .u64 (z 3))))
 clear Q LI LA LR
 go_wp2
 refine bodyPost_ret (results_word (m := z) rfl rfl HR.out) rfl ⟨rfl, HQ.out⟩
theorem sign_far (zi za : Nat → Int) (_n : Nat) (h1 : Ret Tryz.prog 146 #[.agg #[.int .u64 (zi 0), .int .u64 (zi 1), .int .u64 (zi 2), .int .u64 (zi 3)]] (.tuple #[.int .i64 0, .bool false])) :
  Ret Tryz.prog 117 #[.agg #[.int .u64 (zi 0), .int .u64 (zi 1), .int .u64 (zi 2), .int .u64 (zi 3)], .agg #[.int .u64 (za 0), .int .u64 (za 1), .int .u64 (za 2), .int .u64 (za 3)]] (.agg #[.int .u64 (za 0), .int .u64 (za 1), .int .u64 (za 2), .int .u64 (za 3)]) := by
 intro w
 have Hh1 := hid h1
 clear h1
 go_enter Tryz.func117, Tryz.ntmps117
 have LI := Has.new w 24 #[.int .u64 (zi 0), .int .u64 (zi 1), .int .u64 (zi 2), .int .u64 (zi 3)]
 have k1 := LI.cell 0 _ rfl
 have k2 := LI.cell 1 _ rfl
 have k3 := LI.cell 2 _ rfl
 have k4 := LI.cell 3 _ rfl
 have LI := LI.alloc (.cells #[.int .u64 (za 0), .int .u64 (za 1), .int .u64 (za 2), .int .u64 (za 3)] 24)
 have LA := Has.new (w.alloc (.cells #[.int .u64 (zi 0), .int .u64 (zi 1), .int .u64 (zi 2), .int .u64 (zi 3)] 24)) 24 #[.int .u64 (za 0), .int .u64 (za 1), .int .u64 (za 2), .int .u64 (za 3)]
 simp only [World.size_alloc] at LA
 have k5 := LI.cell 0 _ rfl
 have k6 := LI.cell 1 _ rfl
 have k7 := LI.cell 2 _ rfl
 have k8 := LI.cell 3 _ rfl
 have k9 := LA.cell 0 _ rfl
 have k10 := LA.cell 1 _ rfl
 have k11 := LA.cell 2 _ rfl
 have k12 := LA.cell 3 _ rfl
 have LI := LI.alloc (.cells #[.int .u64 0, .int .u64 0, .int .u64 0, .int .u64 0] 24)
 have LA := LA.alloc (.cells #[.int .u64 0, .int .u64 0, .int .u64 0, .int .u64 0] 24)
 have LR := Has.new ((w.alloc (.cells #[.int .u64 (zi 0), .int .u64 (zi 1), .int .u64 (zi 2), .int .u64 (zi 3)] 24)).alloc (.cells #[.int .u64 (za 0), .int .u64 (za 1), .int .u64 (za 2), .int .u64 (za 3)] 24)) 24 #[.int .u64 0, .int .u64 0, .int .u64 0, .int .u64 0]
 simp only [World.size_alloc] at LR
 have k13 := LI.cell 0 _ rfl
 have k14 := LI.cell 1 _ rfl
 have k15 := LI.cell 2 _ rfl
 have k16 := LI.cell 3 _ rfl
 have k17 := LA.cell 0 _ rfl
 have k18 := LA.cell 1 _ rfl
 have k19 := LA.cell 2 _ rfl
 have k20 := LA.cell 3 _ rfl
 have k21 := LR.cell 0 _ rfl
 have k22 := LR.cell 1 _ rfl
 have k23 := LR.cell 2 _ rfl
 have k24 := LR.cell 3 _ rfl
 have Q := (Below.refl w.heap.size w)
 have Q := Q.alloc Q.size (.cells #[.int .u64 (zi 0), .int .u64 (zi 1), .int .u64 (zi 2), .int .u64 (zi 3)] 24)
 have Q := Q.alloc Q.size (.cells #[.int .u64 (za 0), .int .u64 (za 1), .int .u64 (za 2), .int .u64 (za 3)] 24)
 have Q := Q.alloc Q.size (.cells #[.int .u64 0, .int .u64 0, .int .u64 0, .int .u64 0] 24)
 go_wp2_with fail
 clear k1 k2 k3 k4 k5 k6 k7 k8 k9 k10 k11 k12 k13 k14 k15 k16 k17 k18 k19 k20 k21 k22 k23 k24
 obtain ⟨W1, hW1⟩ : ∃ W1, (((w.alloc (.cells #[.int .u64 (zi 0), .int .u64 (zi 1), .int .u64 (zi 2), .int .u64 (zi 3)] 24)).alloc (.cells #[.int .u64 (za 0), .int .u64 (za 1), .int .u64 (za 2), .int .u64 (za 3)] 24)).alloc (.cells #[.int .u64 0, .int .u64 0, .int .u64 0, .int .u64 0] 24)) = W1 := ⟨_, rfl⟩
 rw [hW1] at LI LA LR Q ⊢
 clear hW1
 refine (Hh1.out _).mono ?_
 rintro e v25 ⟨rfl, q⟩
 have LI := LI.later q
 have LA := LA.later q
 have LR := LR.later q
 have Q := Q.trans (q.mono Q.size)
 clear q
 have r0 := LR.cell 0 _ rfl
 have z0 := LR.frozen 0
 have r1 := LR.cell 1 _ rfl
 have z1 := LR.frozen 1
 have r2 := LR.cell 2 _ rfl
 have z2 := LR.frozen 2
 have r3 := LR.cell 3 _ rfl
 have z3 := LR.frozen 3
 have k26 := LI.cell 0 _ rfl
 have k27 := LI.cell 1 _ rfl
 have k28 := LI.cell 2 _ rfl
 have k29 := LI.cell 3 _ rfl
 have k30 := LA.cell 0 _ rfl
 have k31 := LA.cell 1 _ rfl
 have k32 := LA.cell 2 _ rfl
 have k33 := LA.cell 3 _ rfl
 have HR := hid (((((LR.set 0 (.int .u64 (za 0))).set 1 (.int .u64 (za 1))).set 2 (.int .u64 (za 2))).set 3 (.int .u64 (za 3))))
 have HQ := hid (((((Q.setCell (p := ⟨w.heap.size + 1 + 1, 0, none⟩) (show w.heap.size ≤ _ by simp; first | done | omega) (.int .u64 (za 0))).setCell (p := ⟨w.heap.size + 1 + 1, 1, none⟩) (show w.heap.size ≤ _ by simp; first | done | omega) (.int .u64 (za 1))).setCell (p := ⟨w.heap.size + 1 + 1, 2, none⟩) (show w.heap.size ≤ _ by simp; first | done | omega) (.int .u64 (za 2))).setCell (p := ⟨w.heap.size + 1 + 1, 3, none⟩) (show w.heap.size ≤ _ by simp; first | done | omega) (.int .u64 (za 3))))
 clear Q LI LA LR
 go_wp2
 refine bodyPost_ret (results_word (m := za) rfl rfl HR.out) rfl ⟨rfl, HQ.out⟩
theorem sign_out (zi za : Nat → Int) (n : Nat) (hn : 31 ≤ (n : Int)) (h1 : Ret Tryz.prog 146 #[.agg #[.int .u64 (zi 0), .int .u64 (zi 1), .int .u64 (zi 2), .int .u64 (zi 3)]] (.tuple #[.int .i64 (n : Int), .bool true])) :
  Ret Tryz.prog 117 #[.agg #[.int .u64 (zi 0), .int .u64 (zi 1), .int .u64 (zi 2), .int .u64 (zi 3)], .agg #[.int .u64 (za 0), .int .u64 (za 1), .int .u64 (za 2), .int .u64 (za 3)]] (.agg #[.int .u64 (za 0), .int .u64 (za 1), .int .u64 (za 2), .int .u64 (za 3)]) := by
 intro w
 have Hh1 := hid h1
 clear h1
 go_enter Tryz.func117, Tryz.ntmps117
 have LI := Has.new w 24 #[.int .u64 (zi 0), .int .u64 (zi 1), .int .u64 (zi 2), .int .u64 (zi 3)]
 have k1 := LI.cell 0 _ rfl
 have k2 := LI.cell 1 _ rfl
 have k3 := LI.cell 2 _ rfl
 have k4 := LI.cell 3 _ rfl
 have LI := LI.alloc (.cells #[.int .u64 (za 0), .int .u64 (za 1), .int .u64 (za 2), .int .u64 (za 3)] 24)
 have LA := Has.new (w.alloc (.cells #[.int .u64 (zi 0), .int .u64 (zi 1), .int .u64 (zi 2), .int .u64 (zi 3)] 24)) 24 #[.int .u64 (za 0), .int .u64 (za 1), .int .u64 (za 2), .int .u64 (za 3)]
 simp only [World.size_alloc] at LA
 have k5 := LI.cell 0 _ rfl
 have k6 := LI.cell 1 _ rfl
 have k7 := LI.cell 2 _ rfl
 have k8 := LI.cell 3 _ rfl
 have k9 := LA.cell 0 _ rfl
 have k10 := LA.cell 1 _ rfl
 have k11 := LA.cell 2 _ rfl
 have k12 := LA.cell 3 _ rfl
 have LI := LI.alloc (.cells #[.int .u64 0, .int .u64 0, .int .u64 0, .int .u64 0] 24)
 have LA := LA.alloc (.cells #[.int .u64 0, .int .u64 0, .int .u64 0, .int .u64 0] 24)
 have LR := Has.new ((w.alloc (.cells #[.int .u64 (zi 0), .int .u64 (zi 1), .int .u64 (zi 2), .int .u64 (zi 3)] 24)).alloc (.cells #[.int .u64 (za 0), .int .u64 (za 1), .int .u64 (za 2), .int .u64 (za 3)] 24)) 24 #[.int .u64 0, .int .u64 0, .int .u64 0, .int .u64 0]
 simp only [World.size_alloc] at LR
 have k13 := LI.cell 0 _ rfl
 have k14 := LI.cell 1 _ rfl
 have k15 := LI.cell 2 _ rfl
 have k16 := LI.cell 3 _ rfl
 have k17 := LA.cell 0 _ rfl
 have k18 := LA.cell 1 _ rfl
 have k19 := LA.cell 2 _ rfl
 have k20 := LA.cell 3 _ rfl
 have k21 := LR.cell 0 _ rfl
 have k22 := LR.cell 1 _ rfl
 have k23 := LR.cell 2 _ rfl
 have k24 := LR.cell 3 _ rfl
 have Q := (Below.refl w.heap.size w)
 have Q := Q.alloc Q.size (.cells #[.int .u64 (zi 0), .int .u64 (zi 1), .int .u64 (zi 2), .int .u64 (zi 3)] 24)
 have Q := Q.alloc Q.size (.cells #[.int .u64 (za 0), .int .u64 (za 1), .int .u64 (za 2), .int .u64 (za 3)] 24)
 have Q := Q.alloc Q.size (.cells #[.int .u64 0, .int .u64 0, .int .u64 0, .int .u64 0] 24)
 go_wp2_with fail
 clear k1 k2 k3 k4 k5 k6 k7 k8 k9 k10 k11 k12 k13 k14 k15 k16 k17 k18 k19 k20 k21 k22 k23 k24
 obtain ⟨W1, hW1⟩ : ∃ W1, (((w.alloc (.cells #[.int .u64 (zi 0), .int .u64 (zi 1), .int .u64 (zi 2), .int .u64 (zi 3)] 24)).alloc (.cells #[.int .u64 (za 0), .int .u64 (za 1), .int .u64 (za 2), .int .u64 (za 3)] 24)).alloc (.cells #[.int .u64 0, .int .u64 0, .int .u64 0, .int .u64 0] 24)) = W1 := ⟨_, rfl⟩
 rw [hW1] at LI LA LR Q ⊢
 clear hW1
 refine (Hh1.out _).mono ?_
 rintro e v25 ⟨rfl, q⟩
 have LI := LI.later q
 have LA := LA.later q
 have LR := LR.later q
 have Q := Q.trans (q.mono Q.size)
 clear q
 have r0 := LR.cell 0 _ rfl
 have z0 := LR.frozen 0
 have r1 := LR.cell 1 _ rfl
 have z1 := LR.frozen 1
 have r2 := LR.cell 2 _ rfl
 have z2 := LR.frozen 2
 have r3 := LR.cell 3 _ rfl
 have z3 := LR.frozen 3
 have k26 := LI.cell 0 _ rfl
 have k27 := LI.cell 1 _ rfl
 have k28 := LI.cell 2 _ rfl
 have k29 := LI.cell 3 _ rfl
 have k30 := LA.cell 0 _ rfl
 have k31 := LA.cell 1 _ rfl
 have k32 := LA.cell 2 _ rfl
 have k33 := LA.cell 3 _ rfl
 have HR := hid (((((LR.set 0 (.int .u64 (za 0))).set 1 (.int .u64 (za 1))).set 2 (.int .u64 (za 2))).set 3 (.int .u64 (za 3))))
 have HQ := hid (((((Q.setCell (p := ⟨w.heap.size + 1 + 1, 0, none⟩) (show w.heap.size ≤ _ by simp; first | done | omega) (.int .u64 (za 0))).setCell (p := ⟨w.heap.size + 1 + 1, 1, none⟩) (show w.heap.size ≤ _ by simp; first | done | omega) (.int .u64 (za 1))).setCell (p := ⟨w.heap.size + 1 + 1, 2, none⟩) (show w.heap.size ≤ _ by simp; first | done | omega) (.int .u64 (za 2))).setCell (p := ⟨w.heap.size + 1 + 1, 3, none⟩) (show w.heap.size ≤ _ by simp; first | done | omega) (.int .u64 (za 3))))
 clear Q LI LA LR
 go_wp2
 refine bodyPost_ret (results_word (m := za) rfl rfl HR.out) rfl ⟨rfl, HQ.out⟩
theorem sign_in (zi za zv zl z : Nat → Int) (n : Nat) (hn : (n : Int) < 31) (h1 : Ret Tryz.prog 146 #[.agg #[.int .u64 (zi 0), .int .u64 (zi 1), .int .u64 (zi 2), .int .u64 (zi 3)]] (.tuple #[.int .i64 (n : Int), .bool true])) (h2 : Ret Tryz.prog 134 #[.int .i64 (256 - 8 * ((n : Int) + 1))] (.agg #[.int .u64 (zv 0), .int .u64 (zv 1), .int .u64 (zv 2), .int .u64 (zv 3)])) (h3 : RetT Tryz.prog 126 #[.agg #[.int .u64 (zv 0), .int .u64 (zv 1), .int .u64 (zv 2), .int .u64 (zv 3)], .agg #[.int .u64 (za 0), .int .u64 (za 1), .int .u64 (za 2), .int .u64 (za 3)]] (.agg #[.int .u64 (zl 0), .int .u64 (zl 1), .int .u64 (zl 2), .int .u64 (zl 3)])) (h4 : RetT Tryz.prog 128 #[.agg #[.int .u64 (zv 0), .int .u64 (zv 1), .int .u64 (zv 2), .int .u64 (zv 3)], .agg #[.int .u64 (zl 0), .int .u64 (zl 1), .int .u64 (zl 2), .int .u64 (zl 3)]] (.agg #[.int .u64 (z 0), .int .u64 (z 1), .int .u64 (z 2), .int .u64 (z 3)])) :
  RetT Tryz.prog 117 #[.agg #[.int .u64 (zi 0), .int .u64 (zi 1), .int .u64 (zi 2), .int .u64 (zi 3)], .agg #[.int .u64 (za 0), .int .u64 (za 1), .int .u64 (za 2), .int .u64 (za 3)]] (.agg #[.int .u64 (z 0), .int .u64 (z 1), .int .u64 (z 2), .int .u64 (z 3)]) := by
 intro w HT
 have hn0 : (0 : Int) ≤ (n : Int) := by omega
 have hn1 : ¬ 31 ≤ (n : Int) := by omega
 have Hh1 := hid h1
 have Hh2 := hid h2
 have Hh3 := hid h3
 have Hh4 := hid h4
 clear h1 h2 h3 h4
 go_enter Tryz.func117, Tryz.ntmps117
 have LI := Has.new w 24 #[.int .u64 (zi 0), .int .u64 (zi 1), .int .u64 (zi 2), .int .u64 (zi 3)]
 have k1 := LI.cell 0 _ rfl
 have k2 := LI.cell 1 _ rfl
 have k3 := LI.cell 2 _ rfl
 have k4 := LI.cell 3 _ rfl
 have LI := LI.alloc (.cells #[.int .u64 (za 0), .int .u64 (za 1), .int .u64 (za 2), .int .u64 (za 3)] 24)
 have LA := Has.new (w.alloc (.cells #[.int .u64 (zi 0), .int .u64 (zi 1), .int .u64 (zi 2), .int .u64 (zi 3)] 24)) 24 #[.int .u64 (za 0), .int .u64 (za 1), .int .u64 (za 2), .int .u64 (za 3)]
 simp only [World.size_alloc] at LA
 have k5 := LI.cell 0 _ rfl
 have k6 := LI.cell 1 _ rfl
 have k7 := LI.cell 2 _ rfl
 have k8 := LI.cell 3 _ rfl
 have k9 := LA.cell 0 _ rfl
 have k10 := LA.cell 1 _ rfl
 have k11 := LA.cell 2 _ rfl
 have k12 := LA.cell 3 _ rfl
 have LI := LI.alloc (.cells #[.int .u64 0, .int .u64 0, .int .u64 0, .int .u64 0] 24)
 have LA := LA.alloc (.cells #[.int .u64 0, .int .u64 0, .int .u64 0, .int .u64 0] 24)
 have LR := Has.new ((w.alloc (.cells #[.int .u64 (zi 0), .int .u64 (zi 1), .int .u64 (zi 2), .int .u64 (zi 3)] 24)).alloc (.cells #[.int .u64 (za 0), .int .u64 (za 1), .int .u64 (za 2), .int .u64 (za 3)] 24)) 24 #[.int .u64 0, .int .u64 0, .int .u64 0, .int .u64 0]
 simp only [World.size_alloc] at LR
 have k13 := LI.cell 0 _ rfl
 have k14 := LI.cell 1 _ rfl
 have k15 := LI.cell 2 _ rfl
 have k16 := LI.cell 3 _ rfl
 have k17 := LA.cell 0 _ rfl
 have k18 := LA.cell 1 _ rfl
 have k19 := LA.cell 2 _ rfl
 have k20 := LA.cell 3 _ rfl
 have k21 := LR.cell 0 _ rfl
 have k22 := LR.cell 1 _ rfl
 have k23 := LR.cell 2 _ rfl
 have k24 := LR.cell 3 _ rfl
 have Q := (Below.refl w.heap.size w)
 have Q := Q.alloc Q.size (.cells #[.int .u64 (zi 0), .int .u64 (zi 1), .int .u64 (zi 2), .int .u64 (zi 3)] 24)
 have HT := HT.alloc (.cells #[.int .u64 (zi 0), .int .u64 (zi 1), .int .u64 (zi 2), .int .u64 (zi 3)] 24)
 have Q := Q.alloc Q.size (.cells #[.int .u64 (za 0), .int .u64 (za 1), .int .u64 (za 2), .int .u64 (za 3)] 24)
 have HT := HT.alloc (.cells #[.int .u64 (za 0), .int .u64 (za 1), .int .u64 (za 2), .int .u64 (za 3)] 24)
 have Q := Q.alloc Q.size (.cells #[.int .u64 0, .int .u64 0, .int .u64 0, .int .u64 0] 24)
 have HT := HT.alloc (.cells #[.int .u64 0, .int .u64 0, .int .u64 0, .int .u64 0] 24)
 go_wp2_with fail
 clear k1 k2 k3 k4 k5 k6 k7 k8 k9 k10 k11 k12 k13 k14 k15 k16 k17 k18 k19 k20 k21 k22 k23 k24
 obtain ⟨W1, hW1⟩ : ∃ W1, (((w.alloc (.cells #[.int .u64 (zi 0), .int .u64 (zi 1), .int .u64 (zi 2), .int .u64 (zi 3)] 24)).alloc (.cells #[.int .u64 (za 0), .int .u64 (za 1), .int .u64 (za 2), .int .u64 (za 3)] 24)).alloc (.cells #[.int .u64 0, .int .u64 0, .int .u64 0, .int .u64 0] 24)) = W1 := ⟨_, rfl⟩
 rw [hW1] at LI LA LR Q HT ⊢
 clear hW1
 refine (Hh1.out _).mono ?_
 rintro e v25 ⟨rfl, q⟩
 have HT := HT.later q
 have LI := LI.later q
 have LA := LA.later q
 have LR := LR.later q
 have Q := Q.trans (q.mono Q.size)
 clear q
 have k26 := LI.cell 0 _ rfl
 have k27 := LI.cell 1 _ rfl
 have k28 := LI.cell 2 _ rfl
 have k29 := LI.cell 3 _ rfl
 have k30 := LA.cell 0 _ rfl
 have k31 := LA.cell 1 _ rfl
 have k32 := LA.cell 2 _ rfl
 have k33 := LA.cell 3 _ rfl
 have k34 := LR.cell 0 _ rfl
 have k35 := LR.cell 1 _ rfl
 have k36 := LR.cell 2 _ rfl
 have k37 := LR.cell 3 _ rfl
 go_wp2_with fail
 clear k26 k27 k28 k29 k30 k31 k32 k33 k34 k35 k36 k37
 refine (Hh2.out _).mono ?_
 rintro e v38 ⟨rfl, q⟩
 have HT := HT.later q
 have LI := LI.later q
 have LA := LA.later q
 have LR := LR.later q
 have Q := Q.trans (q.mono Q.size)
 clear q
 have k39 := LI.cell 0 _ rfl
 have k40 := LI.cell 1 _ rfl
 have k41 := LI.cell 2 _ rfl
 have k42 := LI.cell 3 _ rfl
 have k43 := LA.cell 0 _ rfl
 have k44 := LA.cell 1 _ rfl
 have k45 := LA.cell 2 _ rfl
 have k46 := LA.cell 3 _ rfl
 have k47 := LR.cell 0 _ rfl
 have k48 := LR.cell 1 _ rfl
 have k49 := LR.cell 2 _ rfl
 have k50 := LR.cell 3 _ rfl
 have LI := LI.alloc (.cells #[.int .u64 (zv 0), .int .u64 (zv 1), .int .u64 (zv 2), .int .u64 (zv 3)] 24)
 have LA := LA.alloc (.cells #[.int .u64 (zv 0), .int .u64 (zv 1), .int .u64 (zv 2), .int .u64 (zv 3)] 24)
 have LR := LR.alloc (.cells #[.int .u64 (zv 0), .int .u64 (zv 1), .int .u64 (zv 2), .int .u64 (zv 3)] 24)
 have LV := Has.new v38 24 #[.int .u64 (zv 0), .int .u64 (zv 1), .int .u64 (zv 2), .int .u64 (zv 3)]
 have k51 := LI.cell 0 _ rfl
 have k52 := LI.cell 1 _ rfl
 have k53 := LI.cell 2 _ rfl
 have k54 := LI.cell 3 _ rfl
 have k55 := LA.cell 0 _ rfl
 have k56 := LA.cell 1 _ rfl
 have k57 := LA.cell 2 _ rfl
 have k58 := LA.cell 3 _ rfl
 have k59 := LR.cell 0 _ rfl
 have k60 := LR.cell 1 _ rfl
 have k61 := LR.cell 2 _ rfl
 have k62 := LR.cell 3 _ rfl
 have k63 := LV.cell 0 _ rfl
 have k64 := LV.cell 1 _ rfl
 have k65 := LV.cell 2 _ rfl
 have k66 := LV.cell 3 _ rfl
 have Q := Q.alloc Q.size (.cells #[.int .u64 (zv 0), .int .u64 (zv 1), .int .u64 (zv 2), .int .u64 (zv 3)] 24)
 have HT := HT.alloc (.cells #[.int .u64 (zv 0), .int .u64 (zv 1), .int .u64 (zv 2), .int .u64 (zv 3)] 24)
 go_wp2_with fail
 clear k39 k40 k41 k42 k43 k44 k45 k46 k47 k48 k49 k50 k51 k52 k53 k54 k55 k56 k57 k58 k59 k60 k61 k62 k63 k64 k65 k66
 obtain ⟨W2, hW2⟩ : ∃ W2, (v38.alloc (.cells #[.int .u64 (zv 0), .int .u64 (zv 1), .int .u64 (zv 2), .int .u64 (zv 3)] 24)) = W2 := ⟨_, rfl⟩
 rw [hW2] at LI LA LR LV Q HT ⊢
 clear hW2
 generalize v38.heap.size = b2 at *
 have k67 : ∀ x : Ext W2, x.w.cell? ⟨w.heap.size, 0, none⟩ = some (.int .u64 (zi 0)) := fun x => (LI.later x.below).cell 0 _ rfl
 have k68 : ∀ x : Ext W2, x.w.cell? ⟨w.heap.size, 1, none⟩ = some (.int .u64 (zi 1)) := fun x => (LI.later x.below).cell 1 _ rfl
 have k69 : ∀ x : Ext W2, x.w.cell? ⟨w.heap.size, 2, none⟩ = some (.int .u64 (zi 2)) := fun x => (LI.later x.below).cell 2 _ rfl
 have k70 : ∀ x : Ext W2, x.w.cell? ⟨w.heap.size, 3, none⟩ = some (.int .u64 (zi 3)) := fun x => (LI.later x.below).cell 3 _ rfl
 have k71 : ∀ x : Ext W2, x.w.cell? ⟨w.heap.size + 1, 0, none⟩ = some (.int .u64 (za 0)) := fun x => (LA.later x.below).cell 0 _ rfl
 have k72 : ∀ x : Ext W2, x.w.cell? ⟨w.heap.size + 1, 1, none⟩ = some (.int .u64 (za 1)) := fun x => (LA.later x.below).cell 1 _ rfl
 have k73 : ∀ x : Ext W2, x.w.cell? ⟨w.heap.size + 1, 2, none⟩ = some (.int .u64 (za 2)) := fun x => (LA.later x.below).cell 2 _ rfl
 have k74 : ∀ x : Ext W2, x.w.cell? ⟨w.heap.size + 1, 3, none⟩ = some (.int .u64 (za 3)) := fun x => (LA.later x.below).cell 3 _ rfl
 have k75 : ∀ x : Ext W2, x.w.cell? ⟨w.heap.size + 1 + 1, 0, none⟩ = some (.int .u64 0) := fun x => (LR.later x.below).cell 0 _ rfl
 have k76 : ∀ x : Ext W2, x.w.cell? ⟨w.heap.size + 1 + 1, 1, none⟩ = some (.int .u64 0) := fun x => (LR.later x.below).cell 1 _ rfl
 have k77 : ∀ x : Ext W2, x.w.cell? ⟨w.heap.size + 1 + 1, 2, none⟩ = some (.int .u64 0) := fun x => (LR.later x.below).cell 2 _ rfl
 have k78 : ∀ x : Ext W2, x.w.cell? ⟨w.heap.size + 1 + 1, 3, none⟩ = some (.int .u64 0) := fun x => (LR.later x.below).cell 3 _ rfl
 have k79 : ∀ x : Ext W2, x.w.cell? ⟨b2, 0, none⟩ = some (.int .u64 (zv 0)) := fun x => (LV.later x.below).cell 0 _ rfl
 have k80 : ∀ x : Ext W2, x.w.cell? ⟨b2, 1, none⟩ = some (.int .u64 (zv 1)) := fun x => (LV.later x.below).cell 1 _ rfl
 have k81 : ∀ x : Ext W2, x.w.cell? ⟨b2, 2, none⟩ = some (.int .u64 (zv 2)) := fun x => (LV.later x.below).cell 2 _ rfl
 have k82 : ∀ x : Ext W2, x.w.cell? ⟨b2, 3, none⟩ = some (.int .u64 (zv 3)) := fun x => (LV.later x.below).cell 3 _ rfl
 have hmx : Tryz.prog.follows .mixedOrders = true := by kernel_rfl
 refine wp_region_mix (C := Grows W2) [some true, some true, some true, some true, some true, none] hmx (by kernel_rfl) (by kernel_rfl) (grows_refl W2) ?_
 simp only [headOf, tailOf]
 repeat (go_big_quiet_step (first | (with_reducible exact RetT.at Hh3.out HT _) | (with_reducible exact RetT.at Hh4.out HT _)))
 refine wpQuiet_nil ?_
 rintro _ ⟨x83, rfl⟩
 clear k67 k68 k69 k70 k71 k72 k73 k74 k75 k76 k77 k78 k79 k80 k81 k82
 have LR := LR.later x83.below
 have Q := Q.trans (x83.below.mono Q.size)
 have r0 := LR.cell 0 _ rfl
 have z0 := LR.frozen 0
 have r1 := LR.cell 1 _ rfl
 have z1 := LR.frozen 1
 have r2 := LR.cell 2 _ rfl
 have z2 := LR.frozen 2
 have r3 := LR.cell 3 _ rfl
 have z3 := LR.frozen 3
 have HR := hid (((((LR.set 0 (.int .u64 (z 0))).set 1 (.int .u64 (z 1))).set 2 (.int .u64 (z 2))).set 3 (.int .u64 (z 3))))
 have HQ := hid (((((Q.setCell (p := ⟨w.heap.size + 1 + 1, 0, none⟩) (show w.heap.size ≤ _ by simp; first | done | omega) (.int .u64 (z 0))).setCell (p := ⟨w.heap.size + 1 + 1, 1, none⟩) (show w.heap.size ≤ _ by simp; first | done | omega) (.int .u64 (z 1))).setCell (p := ⟨w.heap.size + 1 + 1, 2, none⟩) (show w.heap.size ≤ _ by simp; first | done | omega) (.int .u64 (z 2))).setCell (p := ⟨w.heap.size + 1 + 1, 3, none⟩) (show w.heap.size ≤ _ by simp; first | done | omega) (.int .u64 (z 3))))
 clear Q LI LA LR LV
 go_wp2
 rw [calmPost_normal]
 go_wp2
 refine bodyPost_ret (results_word (m := z) rfl rfl HR.out) rfl ⟨rfl, HQ.out⟩
theorem bytesOf_size' (a : Nat) : (bytesOf a).size = 32 := by unfold bytesOf; rw [strOfNums_size]; simp
theorem bytesOf_at (a n : Nat) (hn : n < 32) (h : n < (bytesOf a).size) : (((bytesOf a)[n]'h).toNat : Int) = ((byteN a (31 - n) : Nat) : Int) := by
 have e : (bytesOf a).data.toList[n]? = some (UInt8.ofNat (byteN a (31 - n))) := by
  unfold bytesOf
  rw [strOfNums_data]
  simp [hn]
 have e2 : (bytesOf a)[n]'h = UInt8.ofNat (byteN a (31 - n)) := by
  have h3 : (bytesOf a).data.toList[n]? = some ((bytesOf a)[n]'h) := by
   rw [Array.getElem?_toList]
   exact Array.getElem?_eq_getElem h
  rw [h3] at e
  exact Option.some.inj e
 rw [e2]
 have := byteN_lt a (31 - n)
 simp
 omega
def byteV (i a : Nat) : Nat := if i < 32 then byteN a (31 - i) else 0
theorem byteV_lt (i a : Nat) : byteV i a < 256 := by
 unfold byteV
 split
 ·exact byteN_lt _ _
 ·omega
theorem byte_ret (i a : Nat) (hi : W256 i) (ha : W256 a) : Ret Tryz.prog 125 #[wv i, wv a] (wv (byteV i a)) := by
 have h := int_ret i hi
 unfold intV at h
 unfold byteV
 by_cases hm : i ≤ maxI
 ·rw [if_pos hm] at h
  by_cases hn : i < 32
  ·rw [if_pos hn]
   have hs := bytesOf_size' a
   have hk : i < (bytesOf a).size := by omega
   have hb := bytesOf_at a i hn hk
   have hl := byteN_lt a (31 - i)
   refine byte_in (lim i) (lim a) (lim _) i (bytesOf a) (by omega) (by omega) hk h (bytes_ret a ha) ?_
   rw [hb]
   exact (of_ret ((byteN a (31 - i) : Nat) : Int) (by unfold I64; omega)).of_eq rfl (by rw [ofN_nat]; rfl)
  ·rw [if_neg hn, wv_0]
   exact byte_out (lim i) (lim a) i (by omega) h
 ·rw [if_neg hm] at h
  rw [if_neg (by unfold maxI at hm; omega), wv_0]
  exact byte_far (lim i) (lim a) i h
def signN (i a : Nat) : Nat := if i < 31 then sarN (256 - 8 * (i + 1)) (wmod (a * 2 ^ (256 - 8 * (i + 1)))) else a
theorem signN_lt (i a : Nat) (ha : W256 a) : W256 (signN i a) := by
 unfold signN
 split
 ·exact sarN_lt _ _ (wmod_lt _)
 ·exact ha
theorem sign_ret (i a : Nat) (hi : W256 i) (ha : W256 a) : RetT Tryz.prog 117 #[wv i, wv a] (wv (signN i a)) := by
 have h := int_ret i hi
 unfold intV at h
 unfold signN
 by_cases hm : i ≤ maxI
 ·rw [if_pos hm] at h
  by_cases hn : i < 31
  ·rw [if_pos hn]
   have hv : W256 (256 - 8 * (i + 1)) := by unfold W256; omega
   have h2 := of_ret (256 - 8 * ((i : Int) + 1)) (by unfold I64; omega)
   rw [show (256 - 8 * ((i : Int) + 1)) = ((256 - 8 * (i + 1) : Nat) : Int) by omega, ofN_nat] at h2
   refine sign_in (lim i) (lim a) (lim (256 - 8 * (i + 1))) (lim _) (lim _) i (by omega) h ?_ (shl_ret _ a hv ha) (sar_ret _ _ hv (wmod_lt _))
   rw [show (256 - 8 * ((i : Int) + 1)) = ((256 - 8 * (i + 1) : Nat) : Int) by omega]
   exact h2
  ·rw [if_neg hn]
   exact (sign_out (lim i) (lim a) i (by omega) h).toT
 ·rw [if_neg hm] at h
  rw [if_neg (by unfold maxI at hm; omega)]
  exact (sign_far (lim i) (lim a) i h).toT
end
section
open Go
def dcA (r bit : Nat) : Nat → Int
 | 0 => (bit : Int)
 | k + 1 => addN r r k (dcA r bit k)
theorem dcA_bit (r bit : Nat) (hb : bit ≤ 1) : ∀ k, Bit (dcA r bit k)
 | 0 => by unfold Bit dcA; omega
 | k + 1 => addN_bit r r k _ (dcA_bit r bit hb k)
theorem dbl_all (r bit : Nat) (hr : W256 r) (_hb : bit ≤ 1) : (∀ k, k < 4 → addO r r k (dcA r bit k) = lim (wmod (2 * r + bit)) k) ∧
  dcA r bit 4 = (((2 * r + bit) / 115792089237316195423570985008687907853269984665640564039457584007913129639936 : Nat) : Int) := by
 have e := num_lim r hr
 have k0 : addO r r 0 (dcA r bit 0) + 18446744073709551616 * dcA r bit 1 = lim r 0 + lim r 0 + dcA r bit 0 := add_step ..
 have k1 : addO r r 1 (dcA r bit 1) + 18446744073709551616 * dcA r bit 2 = lim r 1 + lim r 1 + dcA r bit 1 := add_step ..
 have k2 : addO r r 2 (dcA r bit 2) + 18446744073709551616 * dcA r bit 3 = lim r 2 + lim r 2 + dcA r bit 2 := add_step ..
 have k3 : addO r r 3 (dcA r bit 3) + 18446744073709551616 * dcA r bit 4 = lim r 3 + lim r 3 + dcA r bit 3 := add_step ..
 have h0 : dcA r bit 0 = (bit : Int) := rfl
 obtain ⟨z, hz⟩ : ∃ z : Nat → Int, z = fun k => addO r r k (dcA r bit k) := ⟨_, rfl⟩
 have z0 : z 0 = addO r r 0 (dcA r bit 0) := by rw [hz]
 have z1 : z 1 = addO r r 1 (dcA r bit 1) := by rw [hz]
 have z2 : z 2 = addO r r 2 (dcA r bit 2) := by rw [hz]
 have z3 : z 3 = addO r r 3 (dcA r bit 3) := by rw [hz]
 have u : ∀ k, U64 (z k) := fun k => by rw [hz]; exact addO_u64 ..
 obtain ⟨n0, n1⟩ := num_lt z (u 0) (u 1) (u 2) (u 3)
 have key : num z + 115792089237316195423570985008687907853269984665640564039457584007913129639936 * dcA r bit 4 = ((2 * r + bit : Nat) : Int) := by
  have e2 : ((2 * r + bit : Nat) : Int) = (r : Int) + (r : Int) + (bit : Int) := by omega
  rw [e2, ← e, ← h0]
  rw [← z0] at k0; rw [← z1] at k1; rw [← z2] at k2; rw [← z3] at k3
  unfold num
  clear e e2 h0 hz z0 z1 z2 z3 u n0 n1
  omega
 have hq : num z = ((wmod (2 * r + bit) : Nat) : Int) ∧ dcA r bit 4 = (((2 * r + bit) / 115792089237316195423570985008687907853269984665640564039457584007913129639936 : Nat) : Int) := by
  unfold wmod
  clear e k0 k1 k2 k3 z0 z1 z2 z3 u h0 hz
  generalize num z = x at *
  generalize dcA r bit 4 = c at *
  generalize 2 * r + bit = N at *
  constructor <;> omega
 refine ⟨fun k hk => ?_, hq.2⟩
 obtain ⟨l0, l1, l2, l3⟩ := lim_num z _ (u 0) (u 1) (u 2) (u 3) hq.1
 rcases (show k = 0 ∨ k = 1 ∨ k = 2 ∨ k = 3 by omega) with rfl | rfl | rfl | rfl
 ·rw [l0, z0]
 ·rw [l1, z1]
 ·rw [l2, z2]
 ·rw [l3, z3]
def sbA (t b : Nat) : Nat → Int
 | 0 => 0
 | k + 1 => subN t b k (sbA t b k)
theorem sbA_bit (t b : Nat) : ∀ k, Bit (sbA t b k)
 | 0 => bit_zero
 | k + 1 => subN_bit t b k _
theorem sub_all (t b : Nat) (ht : W256 t) (hb : W256 b) : (∀ k, k < 4 → subO t b k (sbA t b k) = lim (wsub t b) k) ∧ sbA t b 4 = if t < b then 1 else 0 := by
 have et := num_lim t ht
 have eb := num_lim b hb
 have st : ∀ k, subO t b k (sbA t b k) = lim t k - lim b k - sbA t b k + 18446744073709551616 * sbA t b (k + 1) := fun k => sub_step _ _ _ (lim_u64 t k) (lim_u64 b k) (sbA_bit t b k)
 have k0 : subO t b 0 (sbA t b 0) = lim t 0 - lim b 0 - sbA t b 0 + 18446744073709551616 * sbA t b 1 := st 0
 have k1 : subO t b 1 (sbA t b 1) = lim t 1 - lim b 1 - sbA t b 1 + 18446744073709551616 * sbA t b 2 := st 1
 have k2 : subO t b 2 (sbA t b 2) = lim t 2 - lim b 2 - sbA t b 2 + 18446744073709551616 * sbA t b 3 := st 2
 have k3 : subO t b 3 (sbA t b 3) = lim t 3 - lim b 3 - sbA t b 3 + 18446744073709551616 * sbA t b 4 := st 3
 have h0 : sbA t b 0 = 0 := rfl
 rw [h0] at k0
 obtain ⟨z, hz⟩ : ∃ z : Nat → Int, z = fun k => subO t b k (sbA t b k) := ⟨_, rfl⟩
 have z0 : z 0 = subO t b 0 (sbA t b 0) := by rw [hz]
 have z1 : z 1 = subO t b 1 (sbA t b 1) := by rw [hz]
 have z2 : z 2 = subO t b 2 (sbA t b 2) := by rw [hz]
 have z3 : z 3 = subO t b 3 (sbA t b 3) := by rw [hz]
 rw [h0] at z0
 have u : ∀ k, U64 (z k) := fun k => by rw [hz]; exact subO_u64 ..
 obtain ⟨n0, n1⟩ := num_lt z (u 0) (u 1) (u 2) (u 3)
 have hbit := sbA_bit t b 4
 have key : num z = (t : Int) - (b : Int) + 115792089237316195423570985008687907853269984665640564039457584007913129639936 * sbA t b 4 := by
  rw [← et, ← eb]
  rw [← z0] at k0; rw [← z1] at k1; rw [← z2] at k2; rw [← z3] at k3
  unfold num
  clear et eb hz z0 z1 z2 z3 u n0 n1 hbit st
  omega
 have hq : num z = ((wsub t b : Nat) : Int) ∧ sbA t b 4 = if t < b then 1 else 0 := by
  unfold wsub wmod
  unfold Bit at hbit
  unfold W256 at ht hb
  clear et eb k0 k1 k2 k3 z0 z1 z2 z3 u st h0 hz
  generalize num z = x at *
  generalize sbA t b 4 = c at *
  by_cases h : t < b
  ·rw [if_pos h]; constructor <;> omega
  ·rw [if_neg h]; constructor <;> omega
 refine ⟨fun k hk => ?_, hq.2⟩
 obtain ⟨l0, l1, l2, l3⟩ := lim_num z _ (u 0) (u 1) (u 2) (u 3) hq.1
 rcases (show k = 0 ∨ k = 1 ∨ k = 2 ∨ k = 3 by omega) with rfl | rfl | rfl | rfl
 ·rw [l0, z0]; rfl
 ·rw [l1, z1]
 ·rw [l2, z2]
 ·rw [l3, z3]
def bdR (r b bit : Nat) : Nat := if b ≤ 2 * r + bit then 2 * r + bit - b else 2 * r + bit
theorem bd_short (r b bit : Nat) (hb : W256 b) (hr : r < b) (h1 : bit ≤ 1) (h : ¬ b ≤ 2 * r + bit) : wmod (2 * r + bit) = bdR r b bit ∧ dcA r bit 4 < sbA (wmod (2 * r + bit)) b 4 := by
 have hr' : W256 r := by unfold W256 at *; omega
 have e := (dbl_all r bit hr' h1).2
 have e2 := (sub_all (wmod (2 * r + bit)) b (wmod_lt _) hb).2
 rw [e, e2]
 unfold bdR
 rw [if_neg h]
 unfold W256 at hb
 have e3 : wmod (2 * r + bit) = 2 * r + bit := by unfold wmod; omega
 rw [e3, if_pos (by omega)]
 exact ⟨rfl, by omega⟩
theorem bd_long (r b bit : Nat) (hb : W256 b) (hr : r < b) (h1 : bit ≤ 1) (h : b ≤ 2 * r + bit) : wsub (wmod (2 * r + bit)) b = bdR r b bit ∧ ¬ dcA r bit 4 < sbA (wmod (2 * r + bit)) b 4 := by
 have hr' : W256 r := by unfold W256 at *; omega
 have e := (dbl_all r bit hr' h1).2
 have e2 := (sub_all (wmod (2 * r + bit)) b (wmod_lt _) hb).2
 rw [e, e2]
 unfold bdR
 rw [if_pos h]
 unfold W256 at hb
 constructor
 ·unfold wsub wmod; omega
 ·unfold wmod
  split <;> omega
theorem bd_mod (N b : Nat) (hb : 0 < b) (k : Nat) : bdR (N / 2 ^ (k + 1) % b) b (N / 2 ^ k % 2) = N / 2 ^ k % b ∧ (b ≤ 2 * (N / 2 ^ (k + 1) % b) + N / 2 ^ k % 2 ↔ N / 2 ^ k / b = 2 * (N / 2 ^ (k + 1) / b) + 1) ∧
  (¬ b ≤ 2 * (N / 2 ^ (k + 1) % b) + N / 2 ^ k % 2 ↔ N / 2 ^ k / b = 2 * (N / 2 ^ (k + 1) / b)) := by
 have e : N / 2 ^ (k + 1) = N / 2 ^ k / 2 := by rw [Nat.pow_succ, Nat.div_div_eq_div_mul]
 rw [e]
 generalize N / 2 ^ k = M
 have h1 := Nat.div_add_mod (M / 2) b
 have h2 := Nat.mod_lt (M / 2) hb
 have h3 := Nat.div_add_mod M 2
 generalize M / 2 / b = q at *
 generalize M / 2 % b = r at *
 have hM : M = b * (2 * q) + (2 * r + M % 2) := by
  have : 2 * (b * q + r) + M % 2 = M := by rw [h1]; omega
  rw [Nat.mul_add] at this
  rw [Nat.mul_left_comm]
  omega
 have hbit : M % 2 < 2 := Nat.mod_lt _ (by decide)
 generalize M % 2 = c at *
 by_cases h : b ≤ 2 * r + c
 ·have hM2 : M = (2 * r + c - b) + b * (2 * q + 1) := by rw [Nat.mul_add, Nat.mul_one]; omega
  have hd : M / b = 2 * q + 1 := by rw [hM2, Nat.add_mul_div_left _ _ hb, Nat.div_eq_of_lt (by omega), Nat.zero_add]
  have hm : M % b = 2 * r + c - b := by rw [hM2, Nat.add_mul_mod_self_left, Nat.mod_eq_of_lt (by omega)]
  unfold bdR
  rw [if_pos h, hd, hm]
  exact ⟨rfl, ⟨fun _ => rfl, fun _ => h⟩, ⟨fun h' => absurd h h', fun h' => by omega⟩⟩
 ·have hM2 : M = (2 * r + c) + b * (2 * q) := by omega
  have hd : M / b = 2 * q := by rw [hM2, Nat.add_mul_div_left _ _ hb, Nat.div_eq_of_lt (by omega), Nat.zero_add]
  have hm : M % b = 2 * r + c := by rw [hM2, Nat.add_mul_mod_self_left, Nat.mod_eq_of_lt (by omega)]
  unfold bdR
  rw [if_neg h, hd, hm]
  exact ⟨rfl, ⟨fun h' => absurd h' h, fun h' => by omega⟩, ⟨fun _ => rfl, fun _ => h⟩⟩
def LenOk (N L : Nat) : Prop := N < 2 ^ L ∧ (N = 0 → L = 0) ∧ (N ≠ 0 → 1 ≤ L ∧ 2 ^ (L - 1) ≤ N)
theorem lenOk_zero : LenOk 0 0 := ⟨by decide, fun _ => rfl, fun h => absurd rfl h⟩
theorem lenOk_part (N p x : Nat) (hx : x < 18446744073709551616) (h0 : x ≠ 0) (hN : N / 18446744073709551616 ^ p = x) : LenOk N (p * 64 + Lib.bitLen x) := by
 obtain ⟨h1, h2, h3⟩ := Lib.bitLenAux_bounds 64 x hx h0
 have e : 2 ^ (p * 64) = 18446744073709551616 ^ p := by rw [Nat.mul_comm, Nat.pow_mul]
 have hp : 0 < 18446744073709551616 ^ p := Nat.pow_pos (by decide)
 have g1 : x * 18446744073709551616 ^ p ≤ N := by rw [← hN]; exact Nat.div_mul_le_self _ _
 have g2 : N < (x + 1) * 18446744073709551616 ^ p := by
  rw [← hN]
  exact (Nat.div_lt_iff_lt_mul hp).1 (Nat.lt_succ_self _)
 unfold Lib.bitLen
 generalize Lib.bitLenAux 64 x = L at *
 refine ⟨?_, fun h => ?_, fun _ => ⟨by omega, ?_⟩⟩
 ·rw [Nat.pow_add, e, Nat.mul_comm]
  exact Nat.lt_of_lt_of_le g2 (Nat.mul_le_mul_right _ h3)
 ·subst h
  rw [Nat.zero_div] at hN
  exact absurd hN.symm h0
 ·rw [show p * 64 + L - 1 = p * 64 + (L - 1) by omega, Nat.pow_add, e, Nat.mul_comm]
  exact Nat.le_trans (Nat.mul_le_mul_right _ h2) g1
theorem lenOk_low (N b La Lb : Nat) (hb : b ≠ 0) (ha : LenOk N La) (hl : LenOk b Lb) : N / 2 ^ (La + 1 - Lb) < b := by
 obtain ⟨g1, g2⟩ := hl.2.2 hb
 have h1 := ha.1
 by_cases h : La + 1 ≤ Lb
 ·rw [show La + 1 - Lb = 0 by omega, Nat.pow_zero, Nat.div_one]
  have : 2 ^ La ≤ 2 ^ (Lb - 1) := Nat.pow_le_pow_right (by decide) (by omega)
  omega
 ·refine Nat.lt_of_lt_of_le ?_ g2
  rw [Nat.div_lt_iff_lt_mul (Nat.pow_pos (by decide)), ← Nat.pow_add, show Lb - 1 + (La + 1 - Lb) = La by omega]
  exact h1
end
end Go.Proofs.YtnkhmgmganejmaaGreatDoor
