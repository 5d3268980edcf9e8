/- Byte and Sign. -/
import Derived.Test.YtnlcllhjhbaigaaDoorBitP
import Derived.Test.YtnlcllhjhbaigaaDoorPick
namespace Go.Proofs.YtnlcllhjhbaigaaDoor
open Go Go.RowKit
attribute [local go_sem] Oper.semAt_some Grows wide_fn

set_option maxRecDepth 100000 in
set_option maxHeartbeats 4000000 in
theorem byte_far (zi za : Nat → Int) (n : Nat) (h1 : Ret Tryd.prog 46 #[.agg #[.int .u64 (zi 0), .int .u64 (zi 1), .int .u64 (zi 2), .int .u64 (zi 3)]] (.tuple #[.int .i64 0, .bool false])) :
    Ret Tryd.prog 26 #[.agg #[.int .u64 (zi 0), .int .u64 (zi 1), .int .u64 (zi 2), .int .u64 (zi 3)], .agg #[.int .u64 (za 0), .int .u64 (za 1), .int .u64 (za 2), .int .u64 (za 3)]] (.agg #[.int .u64 0, .int .u64 0, .int .u64 0, .int .u64 0]) := by
  intro w
  have Hh1 := Lib.hid h1
  clear h1
  go_enter Tryd.func26, Tryd.ntmps26
  have LI := Has.new w 24 #[.int .u64 (zi 0), .int .u64 (zi 1), .int .u64 (zi 2), .int .u64 (zi 3)]
  have k1 := LI.cell 0 _ rfl
  have k2 := LI.cell 1 _ rfl
  have k3 := LI.cell 2 _ rfl
  have k4 := LI.cell 3 _ rfl
  have LI := LI.alloc (.cells #[.int .u64 (za 0), .int .u64 (za 1), .int .u64 (za 2), .int .u64 (za 3)] 24)
  have LA := Has.new (w.alloc (.cells #[.int .u64 (zi 0), .int .u64 (zi 1), .int .u64 (zi 2), .int .u64 (zi 3)] 24)) 24 #[.int .u64 (za 0), .int .u64 (za 1), .int .u64 (za 2), .int .u64 (za 3)]
  simp only [World.size_alloc] at LA
  have k5 := LI.cell 0 _ rfl
  have k6 := LI.cell 1 _ rfl
  have k7 := LI.cell 2 _ rfl
  have k8 := LI.cell 3 _ rfl
  have k9 := LA.cell 0 _ rfl
  have k10 := LA.cell 1 _ rfl
  have k11 := LA.cell 2 _ rfl
  have k12 := LA.cell 3 _ rfl
  have LI := LI.alloc (.cells #[.int .u64 0, .int .u64 0, .int .u64 0, .int .u64 0] 24)
  have LA := LA.alloc (.cells #[.int .u64 0, .int .u64 0, .int .u64 0, .int .u64 0] 24)
  have LR := Has.new ((w.alloc (.cells #[.int .u64 (zi 0), .int .u64 (zi 1), .int .u64 (zi 2), .int .u64 (zi 3)] 24)).alloc (.cells #[.int .u64 (za 0), .int .u64 (za 1), .int .u64 (za 2), .int .u64 (za 3)] 24)) 24 #[.int .u64 0, .int .u64 0, .int .u64 0, .int .u64 0]
  simp only [World.size_alloc] at LR
  have k13 := LI.cell 0 _ rfl
  have k14 := LI.cell 1 _ rfl
  have k15 := LI.cell 2 _ rfl
  have k16 := LI.cell 3 _ rfl
  have k17 := LA.cell 0 _ rfl
  have k18 := LA.cell 1 _ rfl
  have k19 := LA.cell 2 _ rfl
  have k20 := LA.cell 3 _ rfl
  have k21 := LR.cell 0 _ rfl
  have k22 := LR.cell 1 _ rfl
  have k23 := LR.cell 2 _ rfl
  have k24 := LR.cell 3 _ rfl
  have Q := (Below.refl w.heap.size w)
  have Q := Q.alloc Q.size (.cells #[.int .u64 (zi 0), .int .u64 (zi 1), .int .u64 (zi 2), .int .u64 (zi 3)] 24)
  have Q := Q.alloc Q.size (.cells #[.int .u64 (za 0), .int .u64 (za 1), .int .u64 (za 2), .int .u64 (za 3)] 24)
  have Q := Q.alloc Q.size (.cells #[.int .u64 0, .int .u64 0, .int .u64 0, .int .u64 0] 24)
  go_wp2_with fail
  clear k1 k2 k3 k4 k5 k6 k7 k8 k9 k10 k11 k12 k13 k14 k15 k16 k17 k18 k19 k20 k21 k22 k23 k24
  obtain ⟨W1, hW1⟩ : ∃ W1, (((w.alloc (.cells #[.int .u64 (zi 0), .int .u64 (zi 1), .int .u64 (zi 2), .int .u64 (zi 3)] 24)).alloc (.cells #[.int .u64 (za 0), .int .u64 (za 1), .int .u64 (za 2), .int .u64 (za 3)] 24)).alloc (.cells #[.int .u64 0, .int .u64 0, .int .u64 0, .int .u64 0] 24)) = W1 := ⟨_, rfl⟩
  rw [hW1] at LI LA LR Q ⊢
  clear hW1
  refine (Hh1.out _).mono ?_
  rintro e v25 ⟨rfl, q⟩
  have LI := LI.later q
  have LA := LA.later q
  have LR := LR.later q
  have Q := Q.trans (q.mono Q.size)
  clear q
  have r0 := LR.cell 0 _ rfl
  have z0 := LR.frozen 0
  have r1 := LR.cell 1 _ rfl
  have z1 := LR.frozen 1
  have r2 := LR.cell 2 _ rfl
  have z2 := LR.frozen 2
  have r3 := LR.cell 3 _ rfl
  have z3 := LR.frozen 3
  have k26 := LI.cell 0 _ rfl
  have k27 := LI.cell 1 _ rfl
  have k28 := LI.cell 2 _ rfl
  have k29 := LI.cell 3 _ rfl
  have k30 := LA.cell 0 _ rfl
  have k31 := LA.cell 1 _ rfl
  have k32 := LA.cell 2 _ rfl
  have k33 := LA.cell 3 _ rfl
  have HR := Lib.hid (((((LR.set 0 (.int .u64 0)).set 1 (.int .u64 0)).set 2 (.int .u64 0)).set 3 (.int .u64 0)))
  have HQ := Lib.hid (((((Q.setCell (p := ⟨w.heap.size + 1 + 1, 0, none⟩) (show w.heap.size ≤ _ by simp; first | done | omega) (.int .u64 0)).setCell (p := ⟨w.heap.size + 1 + 1, 1, none⟩) (show w.heap.size ≤ _ by simp; first | done | omega) (.int .u64 0)).setCell (p := ⟨w.heap.size + 1 + 1, 2, none⟩) (show w.heap.size ≤ _ by simp; first | done | omega) (.int .u64 0)).setCell (p := ⟨w.heap.size + 1 + 1, 3, none⟩) (show w.heap.size ≤ _ by simp; first | done | omega) (.int .u64 0)))
  clear Q LI LA LR
  go_wp2
  refine bodyPost_ret (results_word (m := fun _ => 0) rfl rfl HR.out) rfl ⟨rfl, HQ.out⟩
set_option maxRecDepth 100000 in
set_option maxHeartbeats 4000000 in
theorem byte_out (zi za : Nat → Int) (n : Nat) (hn : 32 ≤ (n : Int)) (h1 : Ret Tryd.prog 46 #[.agg #[.int .u64 (zi 0), .int .u64 (zi 1), .int .u64 (zi 2), .int .u64 (zi 3)]] (.tuple #[.int .i64 (n : Int), .bool true])) :
    Ret Tryd.prog 26 #[.agg #[.int .u64 (zi 0), .int .u64 (zi 1), .int .u64 (zi 2), .int .u64 (zi 3)], .agg #[.int .u64 (za 0), .int .u64 (za 1), .int .u64 (za 2), .int .u64 (za 3)]] (.agg #[.int .u64 0, .int .u64 0, .int .u64 0, .int .u64 0]) := by
  intro w
  have Hh1 := Lib.hid h1
  clear h1
  go_enter Tryd.func26, Tryd.ntmps26
  have LI := Has.new w 24 #[.int .u64 (zi 0), .int .u64 (zi 1), .int .u64 (zi 2), .int .u64 (zi 3)]
  have k1 := LI.cell 0 _ rfl
  have k2 := LI.cell 1 _ rfl
  have k3 := LI.cell 2 _ rfl
  have k4 := LI.cell 3 _ rfl
  have LI := LI.alloc (.cells #[.int .u64 (za 0), .int .u64 (za 1), .int .u64 (za 2), .int .u64 (za 3)] 24)
  have LA := Has.new (w.alloc (.cells #[.int .u64 (zi 0), .int .u64 (zi 1), .int .u64 (zi 2), .int .u64 (zi 3)] 24)) 24 #[.int .u64 (za 0), .int .u64 (za 1), .int .u64 (za 2), .int .u64 (za 3)]
  simp only [World.size_alloc] at LA
  have k5 := LI.cell 0 _ rfl
  have k6 := LI.cell 1 _ rfl
  have k7 := LI.cell 2 _ rfl
  have k8 := LI.cell 3 _ rfl
  have k9 := LA.cell 0 _ rfl
  have k10 := LA.cell 1 _ rfl
  have k11 := LA.cell 2 _ rfl
  have k12 := LA.cell 3 _ rfl
  have LI := LI.alloc (.cells #[.int .u64 0, .int .u64 0, .int .u64 0, .int .u64 0] 24)
  have LA := LA.alloc (.cells #[.int .u64 0, .int .u64 0, .int .u64 0, .int .u64 0] 24)
  have LR := Has.new ((w.alloc (.cells #[.int .u64 (zi 0), .int .u64 (zi 1), .int .u64 (zi 2), .int .u64 (zi 3)] 24)).alloc (.cells #[.int .u64 (za 0), .int .u64 (za 1), .int .u64 (za 2), .int .u64 (za 3)] 24)) 24 #[.int .u64 0, .int .u64 0, .int .u64 0, .int .u64 0]
  simp only [World.size_alloc] at LR
  have k13 := LI.cell 0 _ rfl
  have k14 := LI.cell 1 _ rfl
  have k15 := LI.cell 2 _ rfl
  have k16 := LI.cell 3 _ rfl
  have k17 := LA.cell 0 _ rfl
  have k18 := LA.cell 1 _ rfl
  have k19 := LA.cell 2 _ rfl
  have k20 := LA.cell 3 _ rfl
  have k21 := LR.cell 0 _ rfl
  have k22 := LR.cell 1 _ rfl
  have k23 := LR.cell 2 _ rfl
  have k24 := LR.cell 3 _ rfl
  have Q := (Below.refl w.heap.size w)
  have Q := Q.alloc Q.size (.cells #[.int .u64 (zi 0), .int .u64 (zi 1), .int .u64 (zi 2), .int .u64 (zi 3)] 24)
  have Q := Q.alloc Q.size (.cells #[.int .u64 (za 0), .int .u64 (za 1), .int .u64 (za 2), .int .u64 (za 3)] 24)
  have Q := Q.alloc Q.size (.cells #[.int .u64 0, .int .u64 0, .int .u64 0, .int .u64 0] 24)
  go_wp2_with fail
  clear k1 k2 k3 k4 k5 k6 k7 k8 k9 k10 k11 k12 k13 k14 k15 k16 k17 k18 k19 k20 k21 k22 k23 k24
  obtain ⟨W1, hW1⟩ : ∃ W1, (((w.alloc (.cells #[.int .u64 (zi 0), .int .u64 (zi 1), .int .u64 (zi 2), .int .u64 (zi 3)] 24)).alloc (.cells #[.int .u64 (za 0), .int .u64 (za 1), .int .u64 (za 2), .int .u64 (za 3)] 24)).alloc (.cells #[.int .u64 0, .int .u64 0, .int .u64 0, .int .u64 0] 24)) = W1 := ⟨_, rfl⟩
  rw [hW1] at LI LA LR Q ⊢
  clear hW1
  refine (Hh1.out _).mono ?_
  rintro e v25 ⟨rfl, q⟩
  have LI := LI.later q
  have LA := LA.later q
  have LR := LR.later q
  have Q := Q.trans (q.mono Q.size)
  clear q
  have r0 := LR.cell 0 _ rfl
  have z0 := LR.frozen 0
  have r1 := LR.cell 1 _ rfl
  have z1 := LR.frozen 1
  have r2 := LR.cell 2 _ rfl
  have z2 := LR.frozen 2
  have r3 := LR.cell 3 _ rfl
  have z3 := LR.frozen 3
  have k26 := LI.cell 0 _ rfl
  have k27 := LI.cell 1 _ rfl
  have k28 := LI.cell 2 _ rfl
  have k29 := LI.cell 3 _ rfl
  have k30 := LA.cell 0 _ rfl
  have k31 := LA.cell 1 _ rfl
  have k32 := LA.cell 2 _ rfl
  have k33 := LA.cell 3 _ rfl
  have HR := Lib.hid (((((LR.set 0 (.int .u64 0)).set 1 (.int .u64 0)).set 2 (.int .u64 0)).set 3 (.int .u64 0)))
  have HQ := Lib.hid (((((Q.setCell (p := ⟨w.heap.size + 1 + 1, 0, none⟩) (show w.heap.size ≤ _ by simp; first | done | omega) (.int .u64 0)).setCell (p := ⟨w.heap.size + 1 + 1, 1, none⟩) (show w.heap.size ≤ _ by simp; first | done | omega) (.int .u64 0)).setCell (p := ⟨w.heap.size + 1 + 1, 2, none⟩) (show w.heap.size ≤ _ by simp; first | done | omega) (.int .u64 0)).setCell (p := ⟨w.heap.size + 1 + 1, 3, none⟩) (show w.heap.size ≤ _ by simp; first | done | omega) (.int .u64 0)))
  clear Q LI LA LR
  go_wp2
  refine bodyPost_ret (results_word (m := fun _ => 0) rfl rfl HR.out) rfl ⟨rfl, HQ.out⟩
set_option maxRecDepth 100000 in
set_option maxHeartbeats 4000000 in
theorem byte_in (zi za z : Nat → Int) (n : Nat) (s : ByteArray) (hn : (n : Int) < 32) (hs : (s.size : Int) = 32) (hk : n < s.size) (h1 : Ret Tryd.prog 46 #[.agg #[.int .u64 (zi 0), .int .u64 (zi 1), .int .u64 (zi 2), .int .u64 (zi 3)]] (.tuple #[.int .i64 (n : Int), .bool true])) (h2 : Ret Tryd.prog 47 #[.agg #[.int .u64 (za 0), .int .u64 (za 1), .int .u64 (za 2), .int .u64 (za 3)]] (.string s)) (h3 : Ret Tryd.prog 38 #[.int .i64 (s[n].toNat : Int)] (.agg #[.int .u64 (z 0), .int .u64 (z 1), .int .u64 (z 2), .int .u64 (z 3)])) :
    Ret Tryd.prog 26 #[.agg #[.int .u64 (zi 0), .int .u64 (zi 1), .int .u64 (zi 2), .int .u64 (zi 3)], .agg #[.int .u64 (za 0), .int .u64 (za 1), .int .u64 (za 2), .int .u64 (za 3)]] (.agg #[.int .u64 (z 0), .int .u64 (z 1), .int .u64 (z 2), .int .u64 (z 3)]) := by
  intro w
  have hb0 : (0 : Int) ≤ (s[n].toNat : Int) := by omega
  have hb1 : (s[n].toNat : Int) < 256 := by have := s[n].toNat_lt; omega
  have hn0 : (0 : Int) ≤ (n : Int) := by omega
  have hn1 : ¬ 32 ≤ (n : Int) := by omega
  have Hh1 := Lib.hid h1
  have Hh2 := Lib.hid h2
  have Hh3 := Lib.hid h3
  clear h1 h2 h3
  go_enter Tryd.func26, Tryd.ntmps26
  have LI := Has.new w 24 #[.int .u64 (zi 0), .int .u64 (zi 1), .int .u64 (zi 2), .int .u64 (zi 3)]
  have k1 := LI.cell 0 _ rfl
  have k2 := LI.cell 1 _ rfl
  have k3 := LI.cell 2 _ rfl
  have k4 := LI.cell 3 _ rfl
  have LI := LI.alloc (.cells #[.int .u64 (za 0), .int .u64 (za 1), .int .u64 (za 2), .int .u64 (za 3)] 24)
  have LA := Has.new (w.alloc (.cells #[.int .u64 (zi 0), .int .u64 (zi 1), .int .u64 (zi 2), .int .u64 (zi 3)] 24)) 24 #[.int .u64 (za 0), .int .u64 (za 1), .int .u64 (za 2), .int .u64 (za 3)]
  simp only [World.size_alloc] at LA
  have k5 := LI.cell 0 _ rfl
  have k6 := LI.cell 1 _ rfl
  have k7 := LI.cell 2 _ rfl
  have k8 := LI.cell 3 _ rfl
  have k9 := LA.cell 0 _ rfl
  have k10 := LA.cell 1 _ rfl
  have k11 := LA.cell 2 _ rfl
  have k12 := LA.cell 3 _ rfl
  have LI := LI.alloc (.cells #[.int .u64 0, .int .u64 0, .int .u64 0, .int .u64 0] 24)
  have LA := LA.alloc (.cells #[.int .u64 0, .int .u64 0, .int .u64 0, .int .u64 0] 24)
  have LR := Has.new ((w.alloc (.cells #[.int .u64 (zi 0), .int .u64 (zi 1), .int .u64 (zi 2), .int .u64 (zi 3)] 24)).alloc (.cells #[.int .u64 (za 0), .int .u64 (za 1), .int .u64 (za 2), .int .u64 (za 3)] 24)) 24 #[.int .u64 0, .int .u64 0, .int .u64 0, .int .u64 0]
  simp only [World.size_alloc] at LR
  have k13 := LI.cell 0 _ rfl
  have k14 := LI.cell 1 _ rfl
  have k15 := LI.cell 2 _ rfl
  have k16 := LI.cell 3 _ rfl
  have k17 := LA.cell 0 _ rfl
  have k18 := LA.cell 1 _ rfl
  have k19 := LA.cell 2 _ rfl
  have k20 := LA.cell 3 _ rfl
  have k21 := LR.cell 0 _ rfl
  have k22 := LR.cell 1 _ rfl
  have k23 := LR.cell 2 _ rfl
  have k24 := LR.cell 3 _ rfl
  have Q := (Below.refl w.heap.size w)
  have Q := Q.alloc Q.size (.cells #[.int .u64 (zi 0), .int .u64 (zi 1), .int .u64 (zi 2), .int .u64 (zi 3)] 24)
  have Q := Q.alloc Q.size (.cells #[.int .u64 (za 0), .int .u64 (za 1), .int .u64 (za 2), .int .u64 (za 3)] 24)
  have Q := Q.alloc Q.size (.cells #[.int .u64 0, .int .u64 0, .int .u64 0, .int .u64 0] 24)
  go_wp2_with fail
  clear k1 k2 k3 k4 k5 k6 k7 k8 k9 k10 k11 k12 k13 k14 k15 k16 k17 k18 k19 k20 k21 k22 k23 k24
  obtain ⟨W1, hW1⟩ : ∃ W1, (((w.alloc (.cells #[.int .u64 (zi 0), .int .u64 (zi 1), .int .u64 (zi 2), .int .u64 (zi 3)] 24)).alloc (.cells #[.int .u64 (za 0), .int .u64 (za 1), .int .u64 (za 2), .int .u64 (za 3)] 24)).alloc (.cells #[.int .u64 0, .int .u64 0, .int .u64 0, .int .u64 0] 24)) = W1 := ⟨_, rfl⟩
  rw [hW1] at LI LA LR Q ⊢
  clear hW1
  refine (Hh1.out _).mono ?_
  rintro e v25 ⟨rfl, q⟩
  have LI := LI.later q
  have LA := LA.later q
  have LR := LR.later q
  have Q := Q.trans (q.mono Q.size)
  clear q
  have k26 := LI.cell 0 _ rfl
  have k27 := LI.cell 1 _ rfl
  have k28 := LI.cell 2 _ rfl
  have k29 := LI.cell 3 _ rfl
  have k30 := LA.cell 0 _ rfl
  have k31 := LA.cell 1 _ rfl
  have k32 := LA.cell 2 _ rfl
  have k33 := LA.cell 3 _ rfl
  have k34 := LR.cell 0 _ rfl
  have k35 := LR.cell 1 _ rfl
  have k36 := LR.cell 2 _ rfl
  have k37 := LR.cell 3 _ rfl
  go_wp2_with fail
  clear k26 k27 k28 k29 k30 k31 k32 k33 k34 k35 k36 k37
  refine (Hh2.out _).mono ?_
  rintro e v38 ⟨rfl, q⟩
  have LI := LI.later q
  have LA := LA.later q
  have LR := LR.later q
  have Q := Q.trans (q.mono Q.size)
  clear q
  have k39 := LI.cell 0 _ rfl
  have k40 := LI.cell 1 _ rfl
  have k41 := LI.cell 2 _ rfl
  have k42 := LI.cell 3 _ rfl
  have k43 := LA.cell 0 _ rfl
  have k44 := LA.cell 1 _ rfl
  have k45 := LA.cell 2 _ rfl
  have k46 := LA.cell 3 _ rfl
  have k47 := LR.cell 0 _ rfl
  have k48 := LR.cell 1 _ rfl
  have k49 := LR.cell 2 _ rfl
  have k50 := LR.cell 3 _ rfl
  go_wp2_with fail
  clear k39 k40 k41 k42 k43 k44 k45 k46 k47 k48 k49 k50
  refine (Hh3.out _).mono ?_
  rintro e v51 ⟨rfl, q⟩
  have LI := LI.later q
  have LA := LA.later q
  have LR := LR.later q
  have Q := Q.trans (q.mono Q.size)
  clear q
  have r0 := LR.cell 0 _ rfl
  have z0 := LR.frozen 0
  have r1 := LR.cell 1 _ rfl
  have z1 := LR.frozen 1
  have r2 := LR.cell 2 _ rfl
  have z2 := LR.frozen 2
  have r3 := LR.cell 3 _ rfl
  have z3 := LR.frozen 3
  have k52 := LI.cell 0 _ rfl
  have k53 := LI.cell 1 _ rfl
  have k54 := LI.cell 2 _ rfl
  have k55 := LI.cell 3 _ rfl
  have k56 := LA.cell 0 _ rfl
  have k57 := LA.cell 1 _ rfl
  have k58 := LA.cell 2 _ rfl
  have k59 := LA.cell 3 _ rfl
  have HR := Lib.hid (((((LR.set 0 (.int .u64 (z 0))).set 1 (.int .u64 (z 1))).set 2 (.int .u64 (z 2))).set 3 (.int .u64 (z 3))))
  have HQ := Lib.hid (((((Q.setCell (p := ⟨w.heap.size + 1 + 1, 0, none⟩) (show w.heap.size ≤ _ by simp; first | done | omega) (.int .u64 (z 0))).setCell (p := ⟨w.heap.size + 1 + 1, 1, none⟩) (show w.heap.size ≤ _ by simp; first | done | omega) (.int .u64 (z 1))).setCell (p := ⟨w.heap.size + 1 + 1, 2, none⟩) (show w.heap.size ≤ _ by simp; first | done | omega) (.int .u64 (z 2))).setCell (p := ⟨w.heap.size + 1 + 1, 3, none⟩) (show w.heap.size ≤ _ by simp; first | done | omega) (.int .u64 (z 3))))
  clear Q LI LA LR
  go_wp2
  refine bodyPost_ret (results_word (m := z) rfl rfl HR.out) rfl ⟨rfl, HQ.out⟩
set_option maxRecDepth 100000 in
set_option maxHeartbeats 4000000 in
theorem sign_far (zi za : Nat → Int) (n : Nat) (h1 : Ret Tryd.prog 46 #[.agg #[.int .u64 (zi 0), .int .u64 (zi 1), .int .u64 (zi 2), .int .u64 (zi 3)]] (.tuple #[.int .i64 0, .bool false])) :
    Ret Tryd.prog 28 #[.agg #[.int .u64 (zi 0), .int .u64 (zi 1), .int .u64 (zi 2), .int .u64 (zi 3)], .agg #[.int .u64 (za 0), .int .u64 (za 1), .int .u64 (za 2), .int .u64 (za 3)]] (.agg #[.int .u64 (za 0), .int .u64 (za 1), .int .u64 (za 2), .int .u64 (za 3)]) := by
  intro w
  have Hh1 := Lib.hid h1
  clear h1
  go_enter Tryd.func28, Tryd.ntmps28
  have LI := Has.new w 24 #[.int .u64 (zi 0), .int .u64 (zi 1), .int .u64 (zi 2), .int .u64 (zi 3)]
  have k1 := LI.cell 0 _ rfl
  have k2 := LI.cell 1 _ rfl
  have k3 := LI.cell 2 _ rfl
  have k4 := LI.cell 3 _ rfl
  have LI := LI.alloc (.cells #[.int .u64 (za 0), .int .u64 (za 1), .int .u64 (za 2), .int .u64 (za 3)] 24)
  have LA := Has.new (w.alloc (.cells #[.int .u64 (zi 0), .int .u64 (zi 1), .int .u64 (zi 2), .int .u64 (zi 3)] 24)) 24 #[.int .u64 (za 0), .int .u64 (za 1), .int .u64 (za 2), .int .u64 (za 3)]
  simp only [World.size_alloc] at LA
  have k5 := LI.cell 0 _ rfl
  have k6 := LI.cell 1 _ rfl
  have k7 := LI.cell 2 _ rfl
  have k8 := LI.cell 3 _ rfl
  have k9 := LA.cell 0 _ rfl
  have k10 := LA.cell 1 _ rfl
  have k11 := LA.cell 2 _ rfl
  have k12 := LA.cell 3 _ rfl
  have LI := LI.alloc (.cells #[.int .u64 0, .int .u64 0, .int .u64 0, .int .u64 0] 24)
  have LA := LA.alloc (.cells #[.int .u64 0, .int .u64 0, .int .u64 0, .int .u64 0] 24)
  have LR := Has.new ((w.alloc (.cells #[.int .u64 (zi 0), .int .u64 (zi 1), .int .u64 (zi 2), .int .u64 (zi 3)] 24)).alloc (.cells #[.int .u64 (za 0), .int .u64 (za 1), .int .u64 (za 2), .int .u64 (za 3)] 24)) 24 #[.int .u64 0, .int .u64 0, .int .u64 0, .int .u64 0]
  simp only [World.size_alloc] at LR
  have k13 := LI.cell 0 _ rfl
  have k14 := LI.cell 1 _ rfl
  have k15 := LI.cell 2 _ rfl
  have k16 := LI.cell 3 _ rfl
  have k17 := LA.cell 0 _ rfl
  have k18 := LA.cell 1 _ rfl
  have k19 := LA.cell 2 _ rfl
  have k20 := LA.cell 3 _ rfl
  have k21 := LR.cell 0 _ rfl
  have k22 := LR.cell 1 _ rfl
  have k23 := LR.cell 2 _ rfl
  have k24 := LR.cell 3 _ rfl
  have Q := (Below.refl w.heap.size w)
  have Q := Q.alloc Q.size (.cells #[.int .u64 (zi 0), .int .u64 (zi 1), .int .u64 (zi 2), .int .u64 (zi 3)] 24)
  have Q := Q.alloc Q.size (.cells #[.int .u64 (za 0), .int .u64 (za 1), .int .u64 (za 2), .int .u64 (za 3)] 24)
  have Q := Q.alloc Q.size (.cells #[.int .u64 0, .int .u64 0, .int .u64 0, .int .u64 0] 24)
  go_wp2_with fail
  clear k1 k2 k3 k4 k5 k6 k7 k8 k9 k10 k11 k12 k13 k14 k15 k16 k17 k18 k19 k20 k21 k22 k23 k24
  obtain ⟨W1, hW1⟩ : ∃ W1, (((w.alloc (.cells #[.int .u64 (zi 0), .int .u64 (zi 1), .int .u64 (zi 2), .int .u64 (zi 3)] 24)).alloc (.cells #[.int .u64 (za 0), .int .u64 (za 1), .int .u64 (za 2), .int .u64 (za 3)] 24)).alloc (.cells #[.int .u64 0, .int .u64 0, .int .u64 0, .int .u64 0] 24)) = W1 := ⟨_, rfl⟩
  rw [hW1] at LI LA LR Q ⊢
  clear hW1
  refine (Hh1.out _).mono ?_
  rintro e v25 ⟨rfl, q⟩
  have LI := LI.later q
  have LA := LA.later q
  have LR := LR.later q
  have Q := Q.trans (q.mono Q.size)
  clear q
  have r0 := LR.cell 0 _ rfl
  have z0 := LR.frozen 0
  have r1 := LR.cell 1 _ rfl
  have z1 := LR.frozen 1
  have r2 := LR.cell 2 _ rfl
  have z2 := LR.frozen 2
  have r3 := LR.cell 3 _ rfl
  have z3 := LR.frozen 3
  have k26 := LI.cell 0 _ rfl
  have k27 := LI.cell 1 _ rfl
  have k28 := LI.cell 2 _ rfl
  have k29 := LI.cell 3 _ rfl
  have k30 := LA.cell 0 _ rfl
  have k31 := LA.cell 1 _ rfl
  have k32 := LA.cell 2 _ rfl
  have k33 := LA.cell 3 _ rfl
  have HR := Lib.hid (((((LR.set 0 (.int .u64 (za 0))).set 1 (.int .u64 (za 1))).set 2 (.int .u64 (za 2))).set 3 (.int .u64 (za 3))))
  have HQ := Lib.hid (((((Q.setCell (p := ⟨w.heap.size + 1 + 1, 0, none⟩) (show w.heap.size ≤ _ by simp; first | done | omega) (.int .u64 (za 0))).setCell (p := ⟨w.heap.size + 1 + 1, 1, none⟩) (show w.heap.size ≤ _ by simp; first | done | omega) (.int .u64 (za 1))).setCell (p := ⟨w.heap.size + 1 + 1, 2, none⟩) (show w.heap.size ≤ _ by simp; first | done | omega) (.int .u64 (za 2))).setCell (p := ⟨w.heap.size + 1 + 1, 3, none⟩) (show w.heap.size ≤ _ by simp; first | done | omega) (.int .u64 (za 3))))
  clear Q LI LA LR
  go_wp2
  refine bodyPost_ret (results_word (m := za) rfl rfl HR.out) rfl ⟨rfl, HQ.out⟩
set_option maxRecDepth 100000 in
set_option maxHeartbeats 4000000 in
theorem sign_out (zi za : Nat → Int) (n : Nat) (hn : 31 ≤ (n : Int)) (h1 : Ret Tryd.prog 46 #[.agg #[.int .u64 (zi 0), .int .u64 (zi 1), .int .u64 (zi 2), .int .u64 (zi 3)]] (.tuple #[.int .i64 (n : Int), .bool true])) :
    Ret Tryd.prog 28 #[.agg #[.int .u64 (zi 0), .int .u64 (zi 1), .int .u64 (zi 2), .int .u64 (zi 3)], .agg #[.int .u64 (za 0), .int .u64 (za 1), .int .u64 (za 2), .int .u64 (za 3)]] (.agg #[.int .u64 (za 0), .int .u64 (za 1), .int .u64 (za 2), .int .u64 (za 3)]) := by
  intro w
  have Hh1 := Lib.hid h1
  clear h1
  go_enter Tryd.func28, Tryd.ntmps28
  have LI := Has.new w 24 #[.int .u64 (zi 0), .int .u64 (zi 1), .int .u64 (zi 2), .int .u64 (zi 3)]
  have k1 := LI.cell 0 _ rfl
  have k2 := LI.cell 1 _ rfl
  have k3 := LI.cell 2 _ rfl
  have k4 := LI.cell 3 _ rfl
  have LI := LI.alloc (.cells #[.int .u64 (za 0), .int .u64 (za 1), .int .u64 (za 2), .int .u64 (za 3)] 24)
  have LA := Has.new (w.alloc (.cells #[.int .u64 (zi 0), .int .u64 (zi 1), .int .u64 (zi 2), .int .u64 (zi 3)] 24)) 24 #[.int .u64 (za 0), .int .u64 (za 1), .int .u64 (za 2), .int .u64 (za 3)]
  simp only [World.size_alloc] at LA
  have k5 := LI.cell 0 _ rfl
  have k6 := LI.cell 1 _ rfl
  have k7 := LI.cell 2 _ rfl
  have k8 := LI.cell 3 _ rfl
  have k9 := LA.cell 0 _ rfl
  have k10 := LA.cell 1 _ rfl
  have k11 := LA.cell 2 _ rfl
  have k12 := LA.cell 3 _ rfl
  have LI := LI.alloc (.cells #[.int .u64 0, .int .u64 0, .int .u64 0, .int .u64 0] 24)
  have LA := LA.alloc (.cells #[.int .u64 0, .int .u64 0, .int .u64 0, .int .u64 0] 24)
  have LR := Has.new ((w.alloc (.cells #[.int .u64 (zi 0), .int .u64 (zi 1), .int .u64 (zi 2), .int .u64 (zi 3)] 24)).alloc (.cells #[.int .u64 (za 0), .int .u64 (za 1), .int .u64 (za 2), .int .u64 (za 3)] 24)) 24 #[.int .u64 0, .int .u64 0, .int .u64 0, .int .u64 0]
  simp only [World.size_alloc] at LR
  have k13 := LI.cell 0 _ rfl
  have k14 := LI.cell 1 _ rfl
  have k15 := LI.cell 2 _ rfl
  have k16 := LI.cell 3 _ rfl
  have k17 := LA.cell 0 _ rfl
  have k18 := LA.cell 1 _ rfl
  have k19 := LA.cell 2 _ rfl
  have k20 := LA.cell 3 _ rfl
  have k21 := LR.cell 0 _ rfl
  have k22 := LR.cell 1 _ rfl
  have k23 := LR.cell 2 _ rfl
  have k24 := LR.cell 3 _ rfl
  have Q := (Below.refl w.heap.size w)
  have Q := Q.alloc Q.size (.cells #[.int .u64 (zi 0), .int .u64 (zi 1), .int .u64 (zi 2), .int .u64 (zi 3)] 24)
  have Q := Q.alloc Q.size (.cells #[.int .u64 (za 0), .int .u64 (za 1), .int .u64 (za 2), .int .u64 (za 3)] 24)
  have Q := Q.alloc Q.size (.cells #[.int .u64 0, .int .u64 0, .int .u64 0, .int .u64 0] 24)
  go_wp2_with fail
  clear k1 k2 k3 k4 k5 k6 k7 k8 k9 k10 k11 k12 k13 k14 k15 k16 k17 k18 k19 k20 k21 k22 k23 k24
  obtain ⟨W1, hW1⟩ : ∃ W1, (((w.alloc (.cells #[.int .u64 (zi 0), .int .u64 (zi 1), .int .u64 (zi 2), .int .u64 (zi 3)] 24)).alloc (.cells #[.int .u64 (za 0), .int .u64 (za 1), .int .u64 (za 2), .int .u64 (za 3)] 24)).alloc (.cells #[.int .u64 0, .int .u64 0, .int .u64 0, .int .u64 0] 24)) = W1 := ⟨_, rfl⟩
  rw [hW1] at LI LA LR Q ⊢
  clear hW1
  refine (Hh1.out _).mono ?_
  rintro e v25 ⟨rfl, q⟩
  have LI := LI.later q
  have LA := LA.later q
  have LR := LR.later q
  have Q := Q.trans (q.mono Q.size)
  clear q
  have r0 := LR.cell 0 _ rfl
  have z0 := LR.frozen 0
  have r1 := LR.cell 1 _ rfl
  have z1 := LR.frozen 1
  have r2 := LR.cell 2 _ rfl
  have z2 := LR.frozen 2
  have r3 := LR.cell 3 _ rfl
  have z3 := LR.frozen 3
  have k26 := LI.cell 0 _ rfl
  have k27 := LI.cell 1 _ rfl
  have k28 := LI.cell 2 _ rfl
  have k29 := LI.cell 3 _ rfl
  have k30 := LA.cell 0 _ rfl
  have k31 := LA.cell 1 _ rfl
  have k32 := LA.cell 2 _ rfl
  have k33 := LA.cell 3 _ rfl
  have HR := Lib.hid (((((LR.set 0 (.int .u64 (za 0))).set 1 (.int .u64 (za 1))).set 2 (.int .u64 (za 2))).set 3 (.int .u64 (za 3))))
  have HQ := Lib.hid (((((Q.setCell (p := ⟨w.heap.size + 1 + 1, 0, none⟩) (show w.heap.size ≤ _ by simp; first | done | omega) (.int .u64 (za 0))).setCell (p := ⟨w.heap.size + 1 + 1, 1, none⟩) (show w.heap.size ≤ _ by simp; first | done | omega) (.int .u64 (za 1))).setCell (p := ⟨w.heap.size + 1 + 1, 2, none⟩) (show w.heap.size ≤ _ by simp; first | done | omega) (.int .u64 (za 2))).setCell (p := ⟨w.heap.size + 1 + 1, 3, none⟩) (show w.heap.size ≤ _ by simp; first | done | omega) (.int .u64 (za 3))))
  clear Q LI LA LR
  go_wp2
  refine bodyPost_ret (results_word (m := za) rfl rfl HR.out) rfl ⟨rfl, HQ.out⟩
set_option maxRecDepth 100000 in
set_option maxHeartbeats 4000000 in
theorem sign_in (zi za zv zl z : Nat → Int) (n : Nat) (hn : (n : Int) < 31) (h1 : Ret Tryd.prog 46 #[.agg #[.int .u64 (zi 0), .int .u64 (zi 1), .int .u64 (zi 2), .int .u64 (zi 3)]] (.tuple #[.int .i64 (n : Int), .bool true])) (h2 : Ret Tryd.prog 38 #[.int .i64 (256 - 8 * ((n : Int) + 1))] (.agg #[.int .u64 (zv 0), .int .u64 (zv 1), .int .u64 (zv 2), .int .u64 (zv 3)])) (h3 : RetT Tryd.prog 20 #[.agg #[.int .u64 (zv 0), .int .u64 (zv 1), .int .u64 (zv 2), .int .u64 (zv 3)], .agg #[.int .u64 (za 0), .int .u64 (za 1), .int .u64 (za 2), .int .u64 (za 3)]] (.agg #[.int .u64 (zl 0), .int .u64 (zl 1), .int .u64 (zl 2), .int .u64 (zl 3)])) (h4 : RetT Tryd.prog 24 #[.agg #[.int .u64 (zv 0), .int .u64 (zv 1), .int .u64 (zv 2), .int .u64 (zv 3)], .agg #[.int .u64 (zl 0), .int .u64 (zl 1), .int .u64 (zl 2), .int .u64 (zl 3)]] (.agg #[.int .u64 (z 0), .int .u64 (z 1), .int .u64 (z 2), .int .u64 (z 3)])) :
    RetT Tryd.prog 28 #[.agg #[.int .u64 (zi 0), .int .u64 (zi 1), .int .u64 (zi 2), .int .u64 (zi 3)], .agg #[.int .u64 (za 0), .int .u64 (za 1), .int .u64 (za 2), .int .u64 (za 3)]] (.agg #[.int .u64 (z 0), .int .u64 (z 1), .int .u64 (z 2), .int .u64 (z 3)]) := by
  intro w HT
  have hn0 : (0 : Int) ≤ (n : Int) := by omega
  have hn1 : ¬ 31 ≤ (n : Int) := by omega
  have Hh1 := Lib.hid h1
  have Hh2 := Lib.hid h2
  have Hh3 := Lib.hid h3
  have Hh4 := Lib.hid h4
  clear h1 h2 h3 h4
  go_enter Tryd.func28, Tryd.ntmps28
  have LI := Has.new w 24 #[.int .u64 (zi 0), .int .u64 (zi 1), .int .u64 (zi 2), .int .u64 (zi 3)]
  have k1 := LI.cell 0 _ rfl
  have k2 := LI.cell 1 _ rfl
  have k3 := LI.cell 2 _ rfl
  have k4 := LI.cell 3 _ rfl
  have LI := LI.alloc (.cells #[.int .u64 (za 0), .int .u64 (za 1), .int .u64 (za 2), .int .u64 (za 3)] 24)
  have LA := Has.new (w.alloc (.cells #[.int .u64 (zi 0), .int .u64 (zi 1), .int .u64 (zi 2), .int .u64 (zi 3)] 24)) 24 #[.int .u64 (za 0), .int .u64 (za 1), .int .u64 (za 2), .int .u64 (za 3)]
  simp only [World.size_alloc] at LA
  have k5 := LI.cell 0 _ rfl
  have k6 := LI.cell 1 _ rfl
  have k7 := LI.cell 2 _ rfl
  have k8 := LI.cell 3 _ rfl
  have k9 := LA.cell 0 _ rfl
  have k10 := LA.cell 1 _ rfl
  have k11 := LA.cell 2 _ rfl
  have k12 := LA.cell 3 _ rfl
  have LI := LI.alloc (.cells #[.int .u64 0, .int .u64 0, .int .u64 0, .int .u64 0] 24)
  have LA := LA.alloc (.cells #[.int .u64 0, .int .u64 0, .int .u64 0, .int .u64 0] 24)
  have LR := Has.new ((w.alloc (.cells #[.int .u64 (zi 0), .int .u64 (zi 1), .int .u64 (zi 2), .int .u64 (zi 3)] 24)).alloc (.cells #[.int .u64 (za 0), .int .u64 (za 1), .int .u64 (za 2), .int .u64 (za 3)] 24)) 24 #[.int .u64 0, .int .u64 0, .int .u64 0, .int .u64 0]
  simp only [World.size_alloc] at LR
  have k13 := LI.cell 0 _ rfl
  have k14 := LI.cell 1 _ rfl
  have k15 := LI.cell 2 _ rfl
  have k16 := LI.cell 3 _ rfl
  have k17 := LA.cell 0 _ rfl
  have k18 := LA.cell 1 _ rfl
  have k19 := LA.cell 2 _ rfl
  have k20 := LA.cell 3 _ rfl
  have k21 := LR.cell 0 _ rfl
  have k22 := LR.cell 1 _ rfl
  have k23 := LR.cell 2 _ rfl
  have k24 := LR.cell 3 _ rfl
  have Q := (Below.refl w.heap.size w)
  have Q := Q.alloc Q.size (.cells #[.int .u64 (zi 0), .int .u64 (zi 1), .int .u64 (zi 2), .int .u64 (zi 3)] 24)
  have HT := HT.alloc (.cells #[.int .u64 (zi 0), .int .u64 (zi 1), .int .u64 (zi 2), .int .u64 (zi 3)] 24)
  have Q := Q.alloc Q.size (.cells #[.int .u64 (za 0), .int .u64 (za 1), .int .u64 (za 2), .int .u64 (za 3)] 24)
  have HT := HT.alloc (.cells #[.int .u64 (za 0), .int .u64 (za 1), .int .u64 (za 2), .int .u64 (za 3)] 24)
  have Q := Q.alloc Q.size (.cells #[.int .u64 0, .int .u64 0, .int .u64 0, .int .u64 0] 24)
  have HT := HT.alloc (.cells #[.int .u64 0, .int .u64 0, .int .u64 0, .int .u64 0] 24)
  go_wp2_with fail
  clear k1 k2 k3 k4 k5 k6 k7 k8 k9 k10 k11 k12 k13 k14 k15 k16 k17 k18 k19 k20 k21 k22 k23 k24
  obtain ⟨W1, hW1⟩ : ∃ W1, (((w.alloc (.cells #[.int .u64 (zi 0), .int .u64 (zi 1), .int .u64 (zi 2), .int .u64 (zi 3)] 24)).alloc (.cells #[.int .u64 (za 0), .int .u64 (za 1), .int .u64 (za 2), .int .u64 (za 3)] 24)).alloc (.cells #[.int .u64 0, .int .u64 0, .int .u64 0, .int .u64 0] 24)) = W1 := ⟨_, rfl⟩
  rw [hW1] at LI LA LR Q HT ⊢
  clear hW1
  refine (Hh1.out _).mono ?_
  rintro e v25 ⟨rfl, q⟩
  have HT := HT.later q
  have LI := LI.later q
  have LA := LA.later q
  have LR := LR.later q
  have Q := Q.trans (q.mono Q.size)
  clear q
  have k26 := LI.cell 0 _ rfl
  have k27 := LI.cell 1 _ rfl
  have k28 := LI.cell 2 _ rfl
  have k29 := LI.cell 3 _ rfl
  have k30 := LA.cell 0 _ rfl
  have k31 := LA.cell 1 _ rfl
  have k32 := LA.cell 2 _ rfl
  have k33 := LA.cell 3 _ rfl
  have k34 := LR.cell 0 _ rfl
  have k35 := LR.cell 1 _ rfl
  have k36 := LR.cell 2 _ rfl
  have k37 := LR.cell 3 _ rfl
  go_wp2_with fail
  clear k26 k27 k28 k29 k30 k31 k32 k33 k34 k35 k36 k37
  refine (Hh2.out _).mono ?_
  rintro e v38 ⟨rfl, q⟩
  have HT := HT.later q
  have LI := LI.later q
  have LA := LA.later q
  have LR := LR.later q
  have Q := Q.trans (q.mono Q.size)
  clear q
  have k39 := LI.cell 0 _ rfl
  have k40 := LI.cell 1 _ rfl
  have k41 := LI.cell 2 _ rfl
  have k42 := LI.cell 3 _ rfl
  have k43 := LA.cell 0 _ rfl
  have k44 := LA.cell 1 _ rfl
  have k45 := LA.cell 2 _ rfl
  have k46 := LA.cell 3 _ rfl
  have k47 := LR.cell 0 _ rfl
  have k48 := LR.cell 1 _ rfl
  have k49 := LR.cell 2 _ rfl
  have k50 := LR.cell 3 _ rfl
  have LI := LI.alloc (.cells #[.int .u64 (zv 0), .int .u64 (zv 1), .int .u64 (zv 2), .int .u64 (zv 3)] 24)
  have LA := LA.alloc (.cells #[.int .u64 (zv 0), .int .u64 (zv 1), .int .u64 (zv 2), .int .u64 (zv 3)] 24)
  have LR := LR.alloc (.cells #[.int .u64 (zv 0), .int .u64 (zv 1), .int .u64 (zv 2), .int .u64 (zv 3)] 24)
  have LV := Has.new v38 24 #[.int .u64 (zv 0), .int .u64 (zv 1), .int .u64 (zv 2), .int .u64 (zv 3)]
  have k51 := LI.cell 0 _ rfl
  have k52 := LI.cell 1 _ rfl
  have k53 := LI.cell 2 _ rfl
  have k54 := LI.cell 3 _ rfl
  have k55 := LA.cell 0 _ rfl
  have k56 := LA.cell 1 _ rfl
  have k57 := LA.cell 2 _ rfl
  have k58 := LA.cell 3 _ rfl
  have k59 := LR.cell 0 _ rfl
  have k60 := LR.cell 1 _ rfl
  have k61 := LR.cell 2 _ rfl
  have k62 := LR.cell 3 _ rfl
  have k63 := LV.cell 0 _ rfl
  have k64 := LV.cell 1 _ rfl
  have k65 := LV.cell 2 _ rfl
  have k66 := LV.cell 3 _ rfl
  have Q := Q.alloc Q.size (.cells #[.int .u64 (zv 0), .int .u64 (zv 1), .int .u64 (zv 2), .int .u64 (zv 3)] 24)
  have HT := HT.alloc (.cells #[.int .u64 (zv 0), .int .u64 (zv 1), .int .u64 (zv 2), .int .u64 (zv 3)] 24)
  go_wp2_with fail
  clear k39 k40 k41 k42 k43 k44 k45 k46 k47 k48 k49 k50 k51 k52 k53 k54 k55 k56 k57 k58 k59 k60 k61 k62 k63 k64 k65 k66
  obtain ⟨W2, hW2⟩ : ∃ W2, (v38.alloc (.cells #[.int .u64 (zv 0), .int .u64 (zv 1), .int .u64 (zv 2), .int .u64 (zv 3)] 24)) = W2 := ⟨_, rfl⟩
  rw [hW2] at LI LA LR LV Q HT ⊢
  clear hW2
  generalize v38.heap.size = b2 at *
  have k67 : ∀ x : Ext W2, x.w.cell? ⟨w.heap.size, 0, none⟩ = some (.int .u64 (zi 0)) := fun x => (LI.later x.below).cell 0 _ rfl
  have k68 : ∀ x : Ext W2, x.w.cell? ⟨w.heap.size, 1, none⟩ = some (.int .u64 (zi 1)) := fun x => (LI.later x.below).cell 1 _ rfl
  have k69 : ∀ x : Ext W2, x.w.cell? ⟨w.heap.size, 2, none⟩ = some (.int .u64 (zi 2)) := fun x => (LI.later x.below).cell 2 _ rfl
  have k70 : ∀ x : Ext W2, x.w.cell? ⟨w.heap.size, 3, none⟩ = some (.int .u64 (zi 3)) := fun x => (LI.later x.below).cell 3 _ rfl
  have k71 : ∀ x : Ext W2, x.w.cell? ⟨w.heap.size + 1, 0, none⟩ = some (.int .u64 (za 0)) := fun x => (LA.later x.below).cell 0 _ rfl
  have k72 : ∀ x : Ext W2, x.w.cell? ⟨w.heap.size + 1, 1, none⟩ = some (.int .u64 (za 1)) := fun x => (LA.later x.below).cell 1 _ rfl
  have k73 : ∀ x : Ext W2, x.w.cell? ⟨w.heap.size + 1, 2, none⟩ = some (.int .u64 (za 2)) := fun x => (LA.later x.below).cell 2 _ rfl
  have k74 : ∀ x : Ext W2, x.w.cell? ⟨w.heap.size + 1, 3, none⟩ = some (.int .u64 (za 3)) := fun x => (LA.later x.below).cell 3 _ rfl
  have k75 : ∀ x : Ext W2, x.w.cell? ⟨w.heap.size + 1 + 1, 0, none⟩ = some (.int .u64 0) := fun x => (LR.later x.below).cell 0 _ rfl
  have k76 : ∀ x : Ext W2, x.w.cell? ⟨w.heap.size + 1 + 1, 1, none⟩ = some (.int .u64 0) := fun x => (LR.later x.below).cell 1 _ rfl
  have k77 : ∀ x : Ext W2, x.w.cell? ⟨w.heap.size + 1 + 1, 2, none⟩ = some (.int .u64 0) := fun x => (LR.later x.below).cell 2 _ rfl
  have k78 : ∀ x : Ext W2, x.w.cell? ⟨w.heap.size + 1 + 1, 3, none⟩ = some (.int .u64 0) := fun x => (LR.later x.below).cell 3 _ rfl
  have k79 : ∀ x : Ext W2, x.w.cell? ⟨b2, 0, none⟩ = some (.int .u64 (zv 0)) := fun x => (LV.later x.below).cell 0 _ rfl
  have k80 : ∀ x : Ext W2, x.w.cell? ⟨b2, 1, none⟩ = some (.int .u64 (zv 1)) := fun x => (LV.later x.below).cell 1 _ rfl
  have k81 : ∀ x : Ext W2, x.w.cell? ⟨b2, 2, none⟩ = some (.int .u64 (zv 2)) := fun x => (LV.later x.below).cell 2 _ rfl
  have k82 : ∀ x : Ext W2, x.w.cell? ⟨b2, 3, none⟩ = some (.int .u64 (zv 3)) := fun x => (LV.later x.below).cell 3 _ rfl
  have hmx : Tryd.prog.follows .mixedOrders = true := by kernel_rfl
  refine wp_region_mix (C := Grows W2) [some true, some true, some true, some true, some true, none] hmx (by kernel_rfl) (by kernel_rfl) (grows_refl W2) ?_
  simp only [headOf, tailOf]
  repeat (go_big_quiet_step (first | (with_reducible exact RetT.at Hh3.out HT _) | (with_reducible exact RetT.at Hh4.out HT _)))
  refine wpQuiet_nil ?_
  rintro _ ⟨x83, rfl⟩
  clear k67 k68 k69 k70 k71 k72 k73 k74 k75 k76 k77 k78 k79 k80 k81 k82
  have LR := LR.later x83.below
  have Q := Q.trans (x83.below.mono Q.size)
  have r0 := LR.cell 0 _ rfl
  have z0 := LR.frozen 0
  have r1 := LR.cell 1 _ rfl
  have z1 := LR.frozen 1
  have r2 := LR.cell 2 _ rfl
  have z2 := LR.frozen 2
  have r3 := LR.cell 3 _ rfl
  have z3 := LR.frozen 3
  have HR := Lib.hid (((((LR.set 0 (.int .u64 (z 0))).set 1 (.int .u64 (z 1))).set 2 (.int .u64 (z 2))).set 3 (.int .u64 (z 3))))
  have HQ := Lib.hid (((((Q.setCell (p := ⟨w.heap.size + 1 + 1, 0, none⟩) (show w.heap.size ≤ _ by simp; first | done | omega) (.int .u64 (z 0))).setCell (p := ⟨w.heap.size + 1 + 1, 1, none⟩) (show w.heap.size ≤ _ by simp; first | done | omega) (.int .u64 (z 1))).setCell (p := ⟨w.heap.size + 1 + 1, 2, none⟩) (show w.heap.size ≤ _ by simp; first | done | omega) (.int .u64 (z 2))).setCell (p := ⟨w.heap.size + 1 + 1, 3, none⟩) (show w.heap.size ≤ _ by simp; first | done | omega) (.int .u64 (z 3))))
  clear Q LI LA LR LV
  go_wp2
  rw [calmPost_normal]
  go_wp2
  refine bodyPost_ret (results_word (m := z) rfl rfl HR.out) rfl ⟨rfl, HQ.out⟩

theorem bytesOf_size' (a : Nat) : (bytesOf a).size = 32 := by unfold bytesOf; rw [strOfNums_size]; simp
theorem bytesOf_at (a n : Nat) (hn : n < 32) (h : n < (bytesOf a).size) : (((bytesOf a)[n]'h).toNat : Int) = ((byteN a (31 - n) : Nat) : Int) := by
  have e : (bytesOf a).data.toList[n]? = some (UInt8.ofNat (byteN a (31 - n))) := by
    unfold bytesOf
    rw [strOfNums_data]
    simp [hn]
  have e2 : (bytesOf a)[n]'h = UInt8.ofNat (byteN a (31 - n)) := by
    have h3 : (bytesOf a).data.toList[n]? = some ((bytesOf a)[n]'h) := by
      rw [Array.getElem?_toList]
      exact Array.getElem?_eq_getElem h
    rw [h3] at e
    exact Option.some.inj e
  rw [e2]
  have := byteN_lt a (31 - n)
  simp
  omega

/-- A byte of a word, the highest one first. -/
def byteV (i a : Nat) : Nat := if i < 32 then byteN a (31 - i) else 0
theorem byteV_lt (i a : Nat) : byteV i a < 256 := by
  unfold byteV
  split
  · exact byteN_lt _ _
  · omega
theorem byte_ret (i a : Nat) (hi : W256 i) (ha : W256 a) : Ret Tryd.prog 26 #[wv i, wv a] (wv (byteV i a)) := by
  have h := int_ret i hi
  unfold intV at h
  unfold byteV
  by_cases hm : i ≤ maxI
  · rw [if_pos hm] at h
    by_cases hn : i < 32
    · rw [if_pos hn]
      have hs := bytesOf_size' a
      have hk : i < (bytesOf a).size := by omega
      have hb := bytesOf_at a i hn hk
      have hl := byteN_lt a (31 - i)
      refine byte_in (lim i) (lim a) (lim _) i (bytesOf a) (by omega) (by omega) hk h (bytes_ret a ha) ?_
      rw [hb]
      exact (of_ret ((byteN a (31 - i) : Nat) : Int) (by unfold I64; omega)).of_eq rfl (by rw [ofN_nat]; rfl)
    · rw [if_neg hn, wv_0]
      exact byte_out (lim i) (lim a) i (by omega) h
  · rw [if_neg hm] at h
    rw [if_neg (by unfold maxI at hm; omega), wv_0]
    exact byte_far (lim i) (lim a) i h

/-- What lies behind a byte's sign. -/
def signN (i a : Nat) : Nat := if i < 31 then sarN (256 - 8 * (i + 1)) (wmod (a * 2 ^ (256 - 8 * (i + 1)))) else a
theorem signN_lt (i a : Nat) (ha : W256 a) : W256 (signN i a) := by
  unfold signN
  split
  · exact sarN_lt _ _ (wmod_lt _)
  · exact ha
theorem sign_ret (i a : Nat) (hi : W256 i) (ha : W256 a) : RetT Tryd.prog 28 #[wv i, wv a] (wv (signN i a)) := by
  have h := int_ret i hi
  unfold intV at h
  unfold signN
  by_cases hm : i ≤ maxI
  · rw [if_pos hm] at h
    by_cases hn : i < 31
    · rw [if_pos hn]
      have hv : W256 (256 - 8 * (i + 1)) := by unfold W256; omega
      have h2 := of_ret (256 - 8 * ((i : Int) + 1)) (by unfold I64; omega)
      rw [show (256 - 8 * ((i : Int) + 1)) = ((256 - 8 * (i + 1) : Nat) : Int) by omega, ofN_nat] at h2
      refine sign_in (lim i) (lim a) (lim (256 - 8 * (i + 1))) (lim _) (lim _) i (by omega) h ?_ (shl_ret _ a hv ha) (sar_ret _ _ hv (wmod_lt _))
      rw [show (256 - 8 * ((i : Int) + 1)) = ((256 - 8 * (i + 1) : Nat) : Int) by omega]
      exact h2
    · rw [if_neg hn]
      exact (sign_out (lim i) (lim a) i (by omega) h).toT
  · rw [if_neg hm] at h
    rw [if_neg (by unfold maxI at hm; omega)]
    exact (sign_far (lim i) (lim a) i h).toT

end Go.Proofs.YtnlcllhjhbaigaaDoor
