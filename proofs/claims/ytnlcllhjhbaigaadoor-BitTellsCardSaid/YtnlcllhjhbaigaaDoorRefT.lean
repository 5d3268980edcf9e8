/- The reference's order of signed words, and a word's number up to a greatest one. -/
import Derived.Test.YtnlcllhjhbaigaaDoorRefS
import Derived.Test.YtnlcllhjhbaigaaDoorRefE
namespace Go.Proofs.YtnlcllhjhbaigaaDoor
open Go Go.RowKit
attribute [local go_sem] Oper.semAt_some Grows


set_option maxRecDepth 100000 in
set_option maxHeartbeats 4000000 in
theorem less3_same (a b : Nat) (c : Int) (hc : Ret Tryd.prog 41 #[.agg #[.int .u64 (lim a 0), .int .u64 (lim a 1), .int .u64 (lim a 2), .int .u64 (lim a 3)], .agg #[.int .u64 (lim b 0), .int .u64 (lim b 1), .int .u64 (lim b 2), .int .u64 (lim b 3)]] (.int .i64 c)) (he : bt a 255 = bt b 255) :
    Ret Tryd.prog 17 #[.agg #[.int .u64 (lim a 0), .int .u64 (lim a 1), .int .u64 (lim a 2), .int .u64 (lim a 3)], .agg #[.int .u64 (lim b 0), .int .u64 (lim b 1), .int .u64 (lim b 2), .int .u64 (lim b 3)]] (.bool (decide (c < 0))) := by
  intro w
  have Hhc := Lib.hid hc
  clear hc
  have HA := Lib.hid (bits_any a)
  have HB := Lib.hid (bits_any b)
  have HE := Lib.hid he
  clear he
  unfold wv at HA HB
  go_enter Tryd.func17, Tryd.ntmps17
  have LX := Has.new w 24 #[.int .u64 (lim a 0), .int .u64 (lim a 1), .int .u64 (lim a 2), .int .u64 (lim a 3)]
  have k1 := LX.cell 0 _ rfl
  have k2 := LX.cell 1 _ rfl
  have k3 := LX.cell 2 _ rfl
  have k4 := LX.cell 3 _ rfl
  have LX := LX.alloc (.cells #[.int .u64 (lim b 0), .int .u64 (lim b 1), .int .u64 (lim b 2), .int .u64 (lim b 3)] 24)
  have LY := Has.new (w.alloc (.cells #[.int .u64 (lim a 0), .int .u64 (lim a 1), .int .u64 (lim a 2), .int .u64 (lim a 3)] 24)) 24 #[.int .u64 (lim b 0), .int .u64 (lim b 1), .int .u64 (lim b 2), .int .u64 (lim b 3)]
  simp only [World.size_alloc] at LY
  have k5 := LX.cell 0 _ rfl
  have k6 := LX.cell 1 _ rfl
  have k7 := LX.cell 2 _ rfl
  have k8 := LX.cell 3 _ rfl
  have k9 := LY.cell 0 _ rfl
  have k10 := LY.cell 1 _ rfl
  have k11 := LY.cell 2 _ rfl
  have k12 := LY.cell 3 _ rfl
  have Q := (Below.refl w.heap.size w)
  have Q := Q.alloc Q.size (.cells #[.int .u64 (lim a 0), .int .u64 (lim a 1), .int .u64 (lim a 2), .int .u64 (lim a 3)] 24)
  have Q := Q.alloc Q.size (.cells #[.int .u64 (lim b 0), .int .u64 (lim b 1), .int .u64 (lim b 2), .int .u64 (lim b 3)] 24)
  go_wp2_with fail
  clear k1 k2 k3 k4 k5 k6 k7 k8 k9 k10 k11 k12
  obtain ⟨W1, hW1⟩ : ∃ W1, ((w.alloc (.cells #[.int .u64 (lim a 0), .int .u64 (lim a 1), .int .u64 (lim a 2), .int .u64 (lim a 3)] 24)).alloc (.cells #[.int .u64 (lim b 0), .int .u64 (lim b 1), .int .u64 (lim b 2), .int .u64 (lim b 3)] 24)) = W1 := ⟨_, rfl⟩
  rw [hW1] at LX LY Q ⊢
  clear hW1
  refine (HA.out _).mono ?_
  rintro e v13 ⟨g, cap, rfl, hg, hI, q⟩
  have LX := LX.later q
  have LY := LY.later q
  have Q := Q.trans (q.mono Q.size)
  clear q
  have cA : v13.cell? ⟨g, 255, none⟩ = some (.int .i64 (bt a 255 : Int)) := hI.cell (by omega)
  clear HA hg
  have k14 := LX.cell 0 _ rfl
  have k15 := LX.cell 1 _ rfl
  have k16 := LX.cell 2 _ rfl
  have k17 := LX.cell 3 _ rfl
  have k18 := LY.cell 0 _ rfl
  have k19 := LY.cell 1 _ rfl
  have k20 := LY.cell 2 _ rfl
  have k21 := LY.cell 3 _ rfl
  go_wp2_with fail
  clear k14 k15 k16 k17 k18 k19 k20 k21
  refine (HB.out _).mono ?_
  rintro e v22 ⟨g2, cap2, rfl, hg2, hJ, q⟩
  have LX := LX.later q
  have LY := LY.later q
  have Q := Q.trans (q.mono Q.size)
  clear q
  have cB : v22.cell? ⟨g2, 255, none⟩ = some (.int .i64 (bt b 255 : Int)) := hJ.cell (by omega)
  clear HB hg2 hJ hI cA
  rw [HE.out]
  clear HE
  generalize (bt b 255 : Int) = x at *
  have k23 := LX.cell 0 _ rfl
  have k24 := LX.cell 1 _ rfl
  have k25 := LX.cell 2 _ rfl
  have k26 := LX.cell 3 _ rfl
  have k27 := LY.cell 0 _ rfl
  have k28 := LY.cell 1 _ rfl
  have k29 := LY.cell 2 _ rfl
  have k30 := LY.cell 3 _ rfl
  go_wp2_with fail
  clear k23 k24 k25 k26 k27 k28 k29 k30
  refine (Hhc.out _).mono ?_
  rintro e v31 ⟨rfl, q⟩
  have LX := LX.later q
  have LY := LY.later q
  have Q := Q.trans (q.mono Q.size)
  clear q
  have k32 := LX.cell 0 _ rfl
  have k33 := LX.cell 1 _ rfl
  have k34 := LX.cell 2 _ rfl
  have k35 := LX.cell 3 _ rfl
  have k36 := LY.cell 0 _ rfl
  have k37 := LY.cell 1 _ rfl
  have k38 := LY.cell 2 _ rfl
  have k39 := LY.cell 3 _ rfl
  go_wp2
  clear k32 k33 k34 k35 k36 k37 k38 k39
  go_ret
  exact ⟨rfl, Q⟩

set_option maxRecDepth 100000 in
set_option maxHeartbeats 4000000 in
theorem less3_other (a b : Nat) (he : bt a 255 ≠ bt b 255) :
    Ret Tryd.prog 17 #[.agg #[.int .u64 (lim a 0), .int .u64 (lim a 1), .int .u64 (lim a 2), .int .u64 (lim a 3)], .agg #[.int .u64 (lim b 0), .int .u64 (lim b 1), .int .u64 (lim b 2), .int .u64 (lim b 3)]] (.bool (decide (bt b 255 < bt a 255))) := by
  intro w
  have HA := Lib.hid (bits_any a)
  have HB := Lib.hid (bits_any b)
  have HE := Lib.hid he
  clear he
  unfold wv at HA HB
  go_enter Tryd.func17, Tryd.ntmps17
  have LX := Has.new w 24 #[.int .u64 (lim a 0), .int .u64 (lim a 1), .int .u64 (lim a 2), .int .u64 (lim a 3)]
  have k1 := LX.cell 0 _ rfl
  have k2 := LX.cell 1 _ rfl
  have k3 := LX.cell 2 _ rfl
  have k4 := LX.cell 3 _ rfl
  have LX := LX.alloc (.cells #[.int .u64 (lim b 0), .int .u64 (lim b 1), .int .u64 (lim b 2), .int .u64 (lim b 3)] 24)
  have LY := Has.new (w.alloc (.cells #[.int .u64 (lim a 0), .int .u64 (lim a 1), .int .u64 (lim a 2), .int .u64 (lim a 3)] 24)) 24 #[.int .u64 (lim b 0), .int .u64 (lim b 1), .int .u64 (lim b 2), .int .u64 (lim b 3)]
  simp only [World.size_alloc] at LY
  have k5 := LX.cell 0 _ rfl
  have k6 := LX.cell 1 _ rfl
  have k7 := LX.cell 2 _ rfl
  have k8 := LX.cell 3 _ rfl
  have k9 := LY.cell 0 _ rfl
  have k10 := LY.cell 1 _ rfl
  have k11 := LY.cell 2 _ rfl
  have k12 := LY.cell 3 _ rfl
  have Q := (Below.refl w.heap.size w)
  have Q := Q.alloc Q.size (.cells #[.int .u64 (lim a 0), .int .u64 (lim a 1), .int .u64 (lim a 2), .int .u64 (lim a 3)] 24)
  have Q := Q.alloc Q.size (.cells #[.int .u64 (lim b 0), .int .u64 (lim b 1), .int .u64 (lim b 2), .int .u64 (lim b 3)] 24)
  go_wp2_with fail
  clear k1 k2 k3 k4 k5 k6 k7 k8 k9 k10 k11 k12
  obtain ⟨W1, hW1⟩ : ∃ W1, ((w.alloc (.cells #[.int .u64 (lim a 0), .int .u64 (lim a 1), .int .u64 (lim a 2), .int .u64 (lim a 3)] 24)).alloc (.cells #[.int .u64 (lim b 0), .int .u64 (lim b 1), .int .u64 (lim b 2), .int .u64 (lim b 3)] 24)) = W1 := ⟨_, rfl⟩
  rw [hW1] at LX LY Q ⊢
  clear hW1
  refine (HA.out _).mono ?_
  rintro e v13 ⟨g, cap, rfl, hg, hI, q⟩
  have LX := LX.later q
  have LY := LY.later q
  have Q := Q.trans (q.mono Q.size)
  clear q
  have cA : v13.cell? ⟨g, 255, none⟩ = some (.int .i64 (bt a 255 : Int)) := hI.cell (by omega)
  clear HA hg
  have k14 := LX.cell 0 _ rfl
  have k15 := LX.cell 1 _ rfl
  have k16 := LX.cell 2 _ rfl
  have k17 := LX.cell 3 _ rfl
  have k18 := LY.cell 0 _ rfl
  have k19 := LY.cell 1 _ rfl
  have k20 := LY.cell 2 _ rfl
  have k21 := LY.cell 3 _ rfl
  go_wp2_with fail
  clear k14 k15 k16 k17 k18 k19 k20 k21
  refine (HB.out _).mono ?_
  rintro e v22 ⟨g2, cap2, rfl, hg2, hJ, q⟩
  have LX := LX.later q
  have LY := LY.later q
  have Q := Q.trans (q.mono Q.size)
  clear q
  have cB : v22.cell? ⟨g2, 255, none⟩ = some (.int .i64 (bt b 255 : Int)) := hJ.cell (by omega)
  clear HB hg2 hJ hI cA
  have hn : ¬ (bt a 255 : Int) = (bt b 255 : Int) := fun h => HE.out (by omega)
  clear HE
  have k23 := LX.cell 0 _ rfl
  have k24 := LX.cell 1 _ rfl
  have k25 := LX.cell 2 _ rfl
  have k26 := LX.cell 3 _ rfl
  have k27 := LY.cell 0 _ rfl
  have k28 := LY.cell 1 _ rfl
  have k29 := LY.cell 2 _ rfl
  have k30 := LY.cell 3 _ rfl
  go_wp2
  clear k23 k24 k25 k26 k27 k28 k29 k30
  go_ret
  exact ⟨rfl, Q⟩

set_option maxRecDepth 100000 in
set_option maxHeartbeats 4000000 in
theorem small_far (a : Nat) (m n : Int) (h : Ret Tryd.prog 59 #[.agg #[.int .u64 (lim a 0), .int .u64 (lim a 1), .int .u64 (lim a 2), .int .u64 (lim a 3)]] (.tuple #[.int .i64 0, .bool false])) :
    Ret Tryd.prog 45 #[.agg #[.int .u64 (lim a 0), .int .u64 (lim a 1), .int .u64 (lim a 2), .int .u64 (lim a 3)], .int .i64 m] (.int .i64 m) := by
  intro w
  have Hh := Lib.hid h
  clear h
  go_enter Tryd.func45, Tryd.ntmps45
  have LX := Has.new w 24 #[.int .u64 (lim a 0), .int .u64 (lim a 1), .int .u64 (lim a 2), .int .u64 (lim a 3)]
  have k1 := LX.cell 0 _ rfl
  have k2 := LX.cell 1 _ rfl
  have k3 := LX.cell 2 _ rfl
  have k4 := LX.cell 3 _ rfl
  have Q := (Below.refl w.heap.size w)
  have Q := Q.alloc Q.size (.cells #[.int .u64 (lim a 0), .int .u64 (lim a 1), .int .u64 (lim a 2), .int .u64 (lim a 3)] 24)
  go_wp2_with fail
  clear k1 k2 k3 k4
  obtain ⟨W1, hW1⟩ : ∃ W1, (w.alloc (.cells #[.int .u64 (lim a 0), .int .u64 (lim a 1), .int .u64 (lim a 2), .int .u64 (lim a 3)] 24)) = W1 := ⟨_, rfl⟩
  rw [hW1] at LX Q ⊢
  clear hW1
  refine (Hh.out _).mono ?_
  rintro e v5 ⟨rfl, q⟩
  have LX := LX.later q
  have Q := Q.trans (q.mono Q.size)
  clear q
  have k6 := LX.cell 0 _ rfl
  have k7 := LX.cell 1 _ rfl
  have k8 := LX.cell 2 _ rfl
  have k9 := LX.cell 3 _ rfl
  go_wp2
  clear k6 k7 k8 k9
  go_ret
  exact ⟨rfl, Q⟩

set_option maxRecDepth 100000 in
set_option maxHeartbeats 4000000 in
theorem small_over (a : Nat) (m n : Int) (h : Ret Tryd.prog 59 #[.agg #[.int .u64 (lim a 0), .int .u64 (lim a 1), .int .u64 (lim a 2), .int .u64 (lim a 3)]] (.tuple #[.int .i64 n, .bool true])) (hlt : m < n) :
    Ret Tryd.prog 45 #[.agg #[.int .u64 (lim a 0), .int .u64 (lim a 1), .int .u64 (lim a 2), .int .u64 (lim a 3)], .int .i64 m] (.int .i64 m) := by
  intro w
  have Hh := Lib.hid h
  clear h
  have hd : decide (m < n) = true := decide_eq_true hlt
  go_enter Tryd.func45, Tryd.ntmps45
  have LX := Has.new w 24 #[.int .u64 (lim a 0), .int .u64 (lim a 1), .int .u64 (lim a 2), .int .u64 (lim a 3)]
  have k1 := LX.cell 0 _ rfl
  have k2 := LX.cell 1 _ rfl
  have k3 := LX.cell 2 _ rfl
  have k4 := LX.cell 3 _ rfl
  have Q := (Below.refl w.heap.size w)
  have Q := Q.alloc Q.size (.cells #[.int .u64 (lim a 0), .int .u64 (lim a 1), .int .u64 (lim a 2), .int .u64 (lim a 3)] 24)
  go_wp2_with fail
  clear k1 k2 k3 k4
  obtain ⟨W1, hW1⟩ : ∃ W1, (w.alloc (.cells #[.int .u64 (lim a 0), .int .u64 (lim a 1), .int .u64 (lim a 2), .int .u64 (lim a 3)] 24)) = W1 := ⟨_, rfl⟩
  rw [hW1] at LX Q ⊢
  clear hW1
  refine (Hh.out _).mono ?_
  rintro e v5 ⟨rfl, q⟩
  have LX := LX.later q
  have Q := Q.trans (q.mono Q.size)
  clear q
  have k6 := LX.cell 0 _ rfl
  have k7 := LX.cell 1 _ rfl
  have k8 := LX.cell 2 _ rfl
  have k9 := LX.cell 3 _ rfl
  go_wp2
  clear k6 k7 k8 k9
  go_ret
  exact ⟨rfl, Q⟩

set_option maxRecDepth 100000 in
set_option maxHeartbeats 4000000 in
theorem small_in (a : Nat) (m n : Int) (h : Ret Tryd.prog 59 #[.agg #[.int .u64 (lim a 0), .int .u64 (lim a 1), .int .u64 (lim a 2), .int .u64 (lim a 3)]] (.tuple #[.int .i64 n, .bool true])) (hlt : ¬ m < n) :
    Ret Tryd.prog 45 #[.agg #[.int .u64 (lim a 0), .int .u64 (lim a 1), .int .u64 (lim a 2), .int .u64 (lim a 3)], .int .i64 m] (.int .i64 n) := by
  intro w
  have Hh := Lib.hid h
  clear h
  have hd : decide (m < n) = false := decide_eq_false hlt
  go_enter Tryd.func45, Tryd.ntmps45
  have LX := Has.new w 24 #[.int .u64 (lim a 0), .int .u64 (lim a 1), .int .u64 (lim a 2), .int .u64 (lim a 3)]
  have k1 := LX.cell 0 _ rfl
  have k2 := LX.cell 1 _ rfl
  have k3 := LX.cell 2 _ rfl
  have k4 := LX.cell 3 _ rfl
  have Q := (Below.refl w.heap.size w)
  have Q := Q.alloc Q.size (.cells #[.int .u64 (lim a 0), .int .u64 (lim a 1), .int .u64 (lim a 2), .int .u64 (lim a 3)] 24)
  go_wp2_with fail
  clear k1 k2 k3 k4
  obtain ⟨W1, hW1⟩ : ∃ W1, (w.alloc (.cells #[.int .u64 (lim a 0), .int .u64 (lim a 1), .int .u64 (lim a 2), .int .u64 (lim a 3)] 24)) = W1 := ⟨_, rfl⟩
  rw [hW1] at LX Q ⊢
  clear hW1
  refine (Hh.out _).mono ?_
  rintro e v5 ⟨rfl, q⟩
  have LX := LX.later q
  have Q := Q.trans (q.mono Q.size)
  clear q
  have k6 := LX.cell 0 _ rfl
  have k7 := LX.cell 1 _ rfl
  have k8 := LX.cell 2 _ rfl
  have k9 := LX.cell 3 _ rfl
  go_wp2
  clear k6 k7 k8 k9
  go_ret
  exact ⟨rfl, Q⟩

theorem refSmall_ret (a m : Nat) (ha : W256 a) (hm : m < 1000) : Ret Tryd.prog 45 #[wv a, .int .i64 (m : Int)] (.int .i64 ((if a ≤ m then a else m : Nat) : Int)) := by
  have h := refInt_ret a ha
  unfold intV at h
  by_cases h1 : a ≤ m
  · rw [if_pos h1]
    rw [if_pos (show a ≤ maxI by unfold maxI; omega)] at h
    exact small_in a m a h (by omega)
  · rw [if_neg h1]
    by_cases h2 : a ≤ maxI
    · rw [if_pos h2] at h
      exact small_over a m a h (by omega)
    · rw [if_neg h2] at h
      exact small_far a m 0 h
end Go.Proofs.YtnlcllhjhbaigaaDoor
