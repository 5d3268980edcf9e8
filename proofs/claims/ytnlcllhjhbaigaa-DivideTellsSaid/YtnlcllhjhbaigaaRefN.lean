/- The reference's signed quotient and rest. -/
import Derived.Test.YtnlcllhjhbaigaaRefL
import Derived.Test.YtnlcllhjhbaigaaLawQ
namespace Go.Proofs.Ytnlcllhjhbaigaa
open Go Go.RowKit
attribute [local go_sem] Oper.semAt_some Grows


set_option maxRecDepth 100000 in
set_option maxHeartbeats 4000000 in
theorem refBelow_top (a : Nat)  :
    Ret Try.prog 27 #[.agg #[.int .u64 (lim a 0), .int .u64 (lim a 1), .int .u64 (lim a 2), .int .u64 (lim a 3)]] (.bool (decide (9223372036854775808 ≤ lim a 3))) := by
  intro w
  go_enter Try.func27, Try.ntmps27
  have LX := Has.new w 24 #[.int .u64 (lim a 0), .int .u64 (lim a 1), .int .u64 (lim a 2), .int .u64 (lim a 3)]
  have k1 := LX.cell 0 _ rfl
  have k2 := LX.cell 1 _ rfl
  have k3 := LX.cell 2 _ rfl
  have k4 := LX.cell 3 _ rfl
  have Q := (Below.refl w.heap.size w)
  have Q := Q.alloc Q.size (.cells #[.int .u64 (lim a 0), .int .u64 (lim a 1), .int .u64 (lim a 2), .int .u64 (lim a 3)] 24)
  go_wp2
  clear k1 k2 k3 k4
  obtain ⟨W1, hW1⟩ : ∃ W1, (w.alloc (.cells #[.int .u64 (lim a 0), .int .u64 (lim a 1), .int .u64 (lim a 2), .int .u64 (lim a 3)] 24)) = W1 := ⟨_, rfl⟩
  rw [hW1] at LX Q ⊢
  clear hW1
  go_ret
  exact ⟨rfl, Q⟩

theorem refBelow_ret (a : Nat) (ha : W256 a) : Ret Try.prog 27 #[wv a] (.bool (negN a)) := by
  rw [← top_of a ha]
  exact refBelow_top a

set_option maxRecDepth 100000 in
set_option maxHeartbeats 4000000 in
theorem refMinus_core (a s : Nat) (hs : Ret Try.prog 46 #[.agg #[.int .u64 0, .int .u64 0, .int .u64 0, .int .u64 0], .agg #[.int .u64 (lim a 0), .int .u64 (lim a 1), .int .u64 (lim a 2), .int .u64 (lim a 3)]] (.agg #[.int .u64 (lim s 0), .int .u64 (lim s 1), .int .u64 (lim s 2), .int .u64 (lim s 3)])) :
    Ret Try.prog 28 #[.agg #[.int .u64 (lim a 0), .int .u64 (lim a 1), .int .u64 (lim a 2), .int .u64 (lim a 3)]] (.agg #[.int .u64 (lim s 0), .int .u64 (lim s 1), .int .u64 (lim s 2), .int .u64 (lim s 3)]) := by
  intro w
  have Hhs := Lib.hid hs
  clear hs
  go_enter Try.func28, Try.ntmps28
  have LX := Has.new w 24 #[.int .u64 (lim a 0), .int .u64 (lim a 1), .int .u64 (lim a 2), .int .u64 (lim a 3)]
  have k1 := LX.cell 0 _ rfl
  have k2 := LX.cell 1 _ rfl
  have k3 := LX.cell 2 _ rfl
  have k4 := LX.cell 3 _ rfl
  have LX := LX.alloc (.cells #[.int .u64 0, .int .u64 0, .int .u64 0, .int .u64 0] 24)
  have LR := Has.new (w.alloc (.cells #[.int .u64 (lim a 0), .int .u64 (lim a 1), .int .u64 (lim a 2), .int .u64 (lim a 3)] 24)) 24 #[.int .u64 0, .int .u64 0, .int .u64 0, .int .u64 0]
  simp only [World.size_alloc] at LR
  have k5 := LX.cell 0 _ rfl
  have k6 := LX.cell 1 _ rfl
  have k7 := LX.cell 2 _ rfl
  have k8 := LX.cell 3 _ rfl
  have k9 := LR.cell 0 _ rfl
  have k10 := LR.cell 1 _ rfl
  have k11 := LR.cell 2 _ rfl
  have k12 := LR.cell 3 _ rfl
  have Q := (Below.refl w.heap.size w)
  have Q := Q.alloc Q.size (.cells #[.int .u64 (lim a 0), .int .u64 (lim a 1), .int .u64 (lim a 2), .int .u64 (lim a 3)] 24)
  have Q := Q.alloc Q.size (.cells #[.int .u64 0, .int .u64 0, .int .u64 0, .int .u64 0] 24)
  go_wp2_with fail
  clear k1 k2 k3 k4 k5 k6 k7 k8 k9 k10 k11 k12
  obtain ⟨W1, hW1⟩ : ∃ W1, ((w.alloc (.cells #[.int .u64 (lim a 0), .int .u64 (lim a 1), .int .u64 (lim a 2), .int .u64 (lim a 3)] 24)).alloc (.cells #[.int .u64 0, .int .u64 0, .int .u64 0, .int .u64 0] 24)) = W1 := ⟨_, rfl⟩
  rw [hW1] at LX LR Q ⊢
  clear hW1
  refine (Hhs.out _).mono ?_
  rintro e v13 ⟨rfl, q⟩
  have LX := LX.later q
  have LR := LR.later q
  have Q := Q.trans (q.mono Q.size)
  clear q
  have r0 := LR.cell 0 _ rfl
  have z0 := LR.frozen 0
  have r1 := LR.cell 1 _ rfl
  have z1 := LR.frozen 1
  have r2 := LR.cell 2 _ rfl
  have z2 := LR.frozen 2
  have r3 := LR.cell 3 _ rfl
  have z3 := LR.frozen 3
  have k14 := LX.cell 0 _ rfl
  have k15 := LX.cell 1 _ rfl
  have k16 := LX.cell 2 _ rfl
  have k17 := LX.cell 3 _ rfl
  have HR := Lib.hid (((((LR.set 0 (.int .u64 (lim s 0))).set 1 (.int .u64 (lim s 1))).set 2 (.int .u64 (lim s 2))).set 3 (.int .u64 (lim s 3))))
  have HQ := Lib.hid (((((Q.setCell (p := ⟨w.heap.size + 1, 0, none⟩) (show w.heap.size ≤ _ by simp; first | done | omega) (.int .u64 (lim s 0))).setCell (p := ⟨w.heap.size + 1, 1, none⟩) (show w.heap.size ≤ _ by simp; first | done | omega) (.int .u64 (lim s 1))).setCell (p := ⟨w.heap.size + 1, 2, none⟩) (show w.heap.size ≤ _ by simp; first | done | omega) (.int .u64 (lim s 2))).setCell (p := ⟨w.heap.size + 1, 3, none⟩) (show w.heap.size ≤ _ by simp; first | done | omega) (.int .u64 (lim s 3))))
  clear Q LX LR
  go_wp2
  refine bodyPost_ret (results_word (m := lim s) rfl rfl HR.out) rfl ⟨rfl, HQ.out⟩

theorem refMinus_ret (a : Nat) (ha : W256 a) : Ret Try.prog 28 #[wv a] (wv (wsub 0 a)) :=
  refMinus_core a (wsub 0 a) ((refSub_ret 0 a (by unfold W256; omega) ha).of_eq (by rw [show wv 0 = .agg #[.int .u64 0, .int .u64 0, .int .u64 0, .int .u64 0] from wv_of ⟨by decide, by decide, by decide, by decide⟩]; rfl) rfl)

set_option maxRecDepth 100000 in
set_option maxHeartbeats 4000000 in
theorem refSize_pos (a s : Nat) (hb : Ret Try.prog 27 #[.agg #[.int .u64 (lim a 0), .int .u64 (lim a 1), .int .u64 (lim a 2), .int .u64 (lim a 3)]] (.bool false)) :
    Ret Try.prog 26 #[.agg #[.int .u64 (lim a 0), .int .u64 (lim a 1), .int .u64 (lim a 2), .int .u64 (lim a 3)]] (.agg #[.int .u64 (lim a 0), .int .u64 (lim a 1), .int .u64 (lim a 2), .int .u64 (lim a 3)]) := by
  intro w
  have Hhb := Lib.hid hb
  clear hb
  go_enter Try.func26, Try.ntmps26
  have LX := Has.new w 24 #[.int .u64 (lim a 0), .int .u64 (lim a 1), .int .u64 (lim a 2), .int .u64 (lim a 3)]
  have k1 := LX.cell 0 _ rfl
  have k2 := LX.cell 1 _ rfl
  have k3 := LX.cell 2 _ rfl
  have k4 := LX.cell 3 _ rfl
  have LX := LX.alloc (.cells #[.int .u64 0, .int .u64 0, .int .u64 0, .int .u64 0] 24)
  have LR := Has.new (w.alloc (.cells #[.int .u64 (lim a 0), .int .u64 (lim a 1), .int .u64 (lim a 2), .int .u64 (lim a 3)] 24)) 24 #[.int .u64 0, .int .u64 0, .int .u64 0, .int .u64 0]
  simp only [World.size_alloc] at LR
  have k5 := LX.cell 0 _ rfl
  have k6 := LX.cell 1 _ rfl
  have k7 := LX.cell 2 _ rfl
  have k8 := LX.cell 3 _ rfl
  have k9 := LR.cell 0 _ rfl
  have k10 := LR.cell 1 _ rfl
  have k11 := LR.cell 2 _ rfl
  have k12 := LR.cell 3 _ rfl
  have Q := (Below.refl w.heap.size w)
  have Q := Q.alloc Q.size (.cells #[.int .u64 (lim a 0), .int .u64 (lim a 1), .int .u64 (lim a 2), .int .u64 (lim a 3)] 24)
  have Q := Q.alloc Q.size (.cells #[.int .u64 0, .int .u64 0, .int .u64 0, .int .u64 0] 24)
  go_wp2_with fail
  clear k1 k2 k3 k4 k5 k6 k7 k8 k9 k10 k11 k12
  obtain ⟨W1, hW1⟩ : ∃ W1, ((w.alloc (.cells #[.int .u64 (lim a 0), .int .u64 (lim a 1), .int .u64 (lim a 2), .int .u64 (lim a 3)] 24)).alloc (.cells #[.int .u64 0, .int .u64 0, .int .u64 0, .int .u64 0] 24)) = W1 := ⟨_, rfl⟩
  rw [hW1] at LX LR Q ⊢
  clear hW1
  refine (Hhb.out _).mono ?_
  rintro e v13 ⟨rfl, q⟩
  have LX := LX.later q
  have LR := LR.later q
  have Q := Q.trans (q.mono Q.size)
  clear q
  have r0 := LR.cell 0 _ rfl
  have z0 := LR.frozen 0
  have r1 := LR.cell 1 _ rfl
  have z1 := LR.frozen 1
  have r2 := LR.cell 2 _ rfl
  have z2 := LR.frozen 2
  have r3 := LR.cell 3 _ rfl
  have z3 := LR.frozen 3
  have k14 := LX.cell 0 _ rfl
  have k15 := LX.cell 1 _ rfl
  have k16 := LX.cell 2 _ rfl
  have k17 := LX.cell 3 _ rfl
  have HR := Lib.hid (((((LR.set 0 (.int .u64 (lim a 0))).set 1 (.int .u64 (lim a 1))).set 2 (.int .u64 (lim a 2))).set 3 (.int .u64 (lim a 3))))
  have HQ := Lib.hid (((((Q.setCell (p := ⟨w.heap.size + 1, 0, none⟩) (show w.heap.size ≤ _ by simp; first | done | omega) (.int .u64 (lim a 0))).setCell (p := ⟨w.heap.size + 1, 1, none⟩) (show w.heap.size ≤ _ by simp; first | done | omega) (.int .u64 (lim a 1))).setCell (p := ⟨w.heap.size + 1, 2, none⟩) (show w.heap.size ≤ _ by simp; first | done | omega) (.int .u64 (lim a 2))).setCell (p := ⟨w.heap.size + 1, 3, none⟩) (show w.heap.size ≤ _ by simp; first | done | omega) (.int .u64 (lim a 3))))
  clear Q LX LR
  go_wp2
  refine bodyPost_ret (results_word (m := lim a) rfl rfl HR.out) rfl ⟨rfl, HQ.out⟩

set_option maxRecDepth 100000 in
set_option maxHeartbeats 4000000 in
theorem refSize_neg (a s : Nat) (hb : Ret Try.prog 27 #[.agg #[.int .u64 (lim a 0), .int .u64 (lim a 1), .int .u64 (lim a 2), .int .u64 (lim a 3)]] (.bool true)) (hm : Ret Try.prog 28 #[.agg #[.int .u64 (lim a 0), .int .u64 (lim a 1), .int .u64 (lim a 2), .int .u64 (lim a 3)]] (.agg #[.int .u64 (lim s 0), .int .u64 (lim s 1), .int .u64 (lim s 2), .int .u64 (lim s 3)])) :
    Ret Try.prog 26 #[.agg #[.int .u64 (lim a 0), .int .u64 (lim a 1), .int .u64 (lim a 2), .int .u64 (lim a 3)]] (.agg #[.int .u64 (lim s 0), .int .u64 (lim s 1), .int .u64 (lim s 2), .int .u64 (lim s 3)]) := by
  intro w
  have Hhb := Lib.hid hb
  have Hhm := Lib.hid hm
  clear hb hm
  go_enter Try.func26, Try.ntmps26
  have LX := Has.new w 24 #[.int .u64 (lim a 0), .int .u64 (lim a 1), .int .u64 (lim a 2), .int .u64 (lim a 3)]
  have k1 := LX.cell 0 _ rfl
  have k2 := LX.cell 1 _ rfl
  have k3 := LX.cell 2 _ rfl
  have k4 := LX.cell 3 _ rfl
  have LX := LX.alloc (.cells #[.int .u64 0, .int .u64 0, .int .u64 0, .int .u64 0] 24)
  have LR := Has.new (w.alloc (.cells #[.int .u64 (lim a 0), .int .u64 (lim a 1), .int .u64 (lim a 2), .int .u64 (lim a 3)] 24)) 24 #[.int .u64 0, .int .u64 0, .int .u64 0, .int .u64 0]
  simp only [World.size_alloc] at LR
  have k5 := LX.cell 0 _ rfl
  have k6 := LX.cell 1 _ rfl
  have k7 := LX.cell 2 _ rfl
  have k8 := LX.cell 3 _ rfl
  have k9 := LR.cell 0 _ rfl
  have k10 := LR.cell 1 _ rfl
  have k11 := LR.cell 2 _ rfl
  have k12 := LR.cell 3 _ rfl
  have Q := (Below.refl w.heap.size w)
  have Q := Q.alloc Q.size (.cells #[.int .u64 (lim a 0), .int .u64 (lim a 1), .int .u64 (lim a 2), .int .u64 (lim a 3)] 24)
  have Q := Q.alloc Q.size (.cells #[.int .u64 0, .int .u64 0, .int .u64 0, .int .u64 0] 24)
  go_wp2_with fail
  clear k1 k2 k3 k4 k5 k6 k7 k8 k9 k10 k11 k12
  obtain ⟨W1, hW1⟩ : ∃ W1, ((w.alloc (.cells #[.int .u64 (lim a 0), .int .u64 (lim a 1), .int .u64 (lim a 2), .int .u64 (lim a 3)] 24)).alloc (.cells #[.int .u64 0, .int .u64 0, .int .u64 0, .int .u64 0] 24)) = W1 := ⟨_, rfl⟩
  rw [hW1] at LX LR Q ⊢
  clear hW1
  refine (Hhb.out _).mono ?_
  rintro e v13 ⟨rfl, q⟩
  have LX := LX.later q
  have LR := LR.later q
  have Q := Q.trans (q.mono Q.size)
  clear q
  have k14 := LX.cell 0 _ rfl
  have k15 := LX.cell 1 _ rfl
  have k16 := LX.cell 2 _ rfl
  have k17 := LX.cell 3 _ rfl
  have k18 := LR.cell 0 _ rfl
  have k19 := LR.cell 1 _ rfl
  have k20 := LR.cell 2 _ rfl
  have k21 := LR.cell 3 _ rfl
  go_wp2_with fail
  clear k14 k15 k16 k17 k18 k19 k20 k21
  refine (Hhm.out _).mono ?_
  rintro e v22 ⟨rfl, q⟩
  have LX := LX.later q
  have LR := LR.later q
  have Q := Q.trans (q.mono Q.size)
  clear q
  have r0 := LR.cell 0 _ rfl
  have z0 := LR.frozen 0
  have r1 := LR.cell 1 _ rfl
  have z1 := LR.frozen 1
  have r2 := LR.cell 2 _ rfl
  have z2 := LR.frozen 2
  have r3 := LR.cell 3 _ rfl
  have z3 := LR.frozen 3
  have k23 := LX.cell 0 _ rfl
  have k24 := LX.cell 1 _ rfl
  have k25 := LX.cell 2 _ rfl
  have k26 := LX.cell 3 _ rfl
  have HR := Lib.hid (((((LR.set 0 (.int .u64 (lim s 0))).set 1 (.int .u64 (lim s 1))).set 2 (.int .u64 (lim s 2))).set 3 (.int .u64 (lim s 3))))
  have HQ := Lib.hid (((((Q.setCell (p := ⟨w.heap.size + 1, 0, none⟩) (show w.heap.size ≤ _ by simp; first | done | omega) (.int .u64 (lim s 0))).setCell (p := ⟨w.heap.size + 1, 1, none⟩) (show w.heap.size ≤ _ by simp; first | done | omega) (.int .u64 (lim s 1))).setCell (p := ⟨w.heap.size + 1, 2, none⟩) (show w.heap.size ≤ _ by simp; first | done | omega) (.int .u64 (lim s 2))).setCell (p := ⟨w.heap.size + 1, 3, none⟩) (show w.heap.size ≤ _ by simp; first | done | omega) (.int .u64 (lim s 3))))
  clear Q LX LR
  go_wp2
  refine bodyPost_ret (results_word (m := lim s) rfl rfl HR.out) rfl ⟨rfl, HQ.out⟩

theorem refSize_ret (a : Nat) (ha : W256 a) : Ret Try.prog 26 #[wv a] (wv (szN a)) := by
  have hb := refBelow_ret a ha
  unfold szN sgN
  cases h : negN a with
  | true => rw [h] at hb; exact refSize_neg a (wsub 0 a) hb (refMinus_ret a ha)
  | false => rw [h] at hb; exact refSize_pos a 0 hb

set_option maxRecDepth 100000 in
set_option maxHeartbeats 4000000 in
theorem refSdiv_true_true (a b x y q s : Nat) (hx : Ret Try.prog 26 #[.agg #[.int .u64 (lim a 0), .int .u64 (lim a 1), .int .u64 (lim a 2), .int .u64 (lim a 3)]] (.agg #[.int .u64 (lim x 0), .int .u64 (lim x 1), .int .u64 (lim x 2), .int .u64 (lim x 3)])) (hy : Ret Try.prog 26 #[.agg #[.int .u64 (lim b 0), .int .u64 (lim b 1), .int .u64 (lim b 2), .int .u64 (lim b 3)]] (.agg #[.int .u64 (lim y 0), .int .u64 (lim y 1), .int .u64 (lim y 2), .int .u64 (lim y 3)])) (hd : Ret Try.prog 6 #[.agg #[.int .u64 (lim x 0), .int .u64 (lim x 1), .int .u64 (lim x 2), .int .u64 (lim x 3)], .agg #[.int .u64 (lim y 0), .int .u64 (lim y 1), .int .u64 (lim y 2), .int .u64 (lim y 3)]] (.agg #[.int .u64 (lim q 0), .int .u64 (lim q 1), .int .u64 (lim q 2), .int .u64 (lim q 3)])) (ba : Ret Try.prog 27 #[.agg #[.int .u64 (lim a 0), .int .u64 (lim a 1), .int .u64 (lim a 2), .int .u64 (lim a 3)]] (.bool true)) (bb : Ret Try.prog 27 #[.agg #[.int .u64 (lim b 0), .int .u64 (lim b 1), .int .u64 (lim b 2), .int .u64 (lim b 3)]] (.bool true)) :
    Ret Try.prog 10 #[.agg #[.int .u64 (lim a 0), .int .u64 (lim a 1), .int .u64 (lim a 2), .int .u64 (lim a 3)], .agg #[.int .u64 (lim b 0), .int .u64 (lim b 1), .int .u64 (lim b 2), .int .u64 (lim b 3)]] (.agg #[.int .u64 (lim q 0), .int .u64 (lim q 1), .int .u64 (lim q 2), .int .u64 (lim q 3)]) := by
  intro w
  have Hhx := Lib.hid hx
  have Hhy := Lib.hid hy
  have Hhd := Lib.hid hd
  have Hba := Lib.hid ba
  have Hbb := Lib.hid bb
  clear hx hy hd ba bb
  go_enter Try.func10, Try.ntmps10
  have LX := Has.new w 24 #[.int .u64 (lim a 0), .int .u64 (lim a 1), .int .u64 (lim a 2), .int .u64 (lim a 3)]
  have k1 := LX.cell 0 _ rfl
  have k2 := LX.cell 1 _ rfl
  have k3 := LX.cell 2 _ rfl
  have k4 := LX.cell 3 _ rfl
  have LX := LX.alloc (.cells #[.int .u64 (lim b 0), .int .u64 (lim b 1), .int .u64 (lim b 2), .int .u64 (lim b 3)] 24)
  have LN := Has.new (w.alloc (.cells #[.int .u64 (lim a 0), .int .u64 (lim a 1), .int .u64 (lim a 2), .int .u64 (lim a 3)] 24)) 24 #[.int .u64 (lim b 0), .int .u64 (lim b 1), .int .u64 (lim b 2), .int .u64 (lim b 3)]
  simp only [World.size_alloc] at LN
  have k5 := LX.cell 0 _ rfl
  have k6 := LX.cell 1 _ rfl
  have k7 := LX.cell 2 _ rfl
  have k8 := LX.cell 3 _ rfl
  have k9 := LN.cell 0 _ rfl
  have k10 := LN.cell 1 _ rfl
  have k11 := LN.cell 2 _ rfl
  have k12 := LN.cell 3 _ rfl
  have LX := LX.alloc (.cells #[.int .u64 0, .int .u64 0, .int .u64 0, .int .u64 0] 24)
  have LN := LN.alloc (.cells #[.int .u64 0, .int .u64 0, .int .u64 0, .int .u64 0] 24)
  have LR := Has.new ((w.alloc (.cells #[.int .u64 (lim a 0), .int .u64 (lim a 1), .int .u64 (lim a 2), .int .u64 (lim a 3)] 24)).alloc (.cells #[.int .u64 (lim b 0), .int .u64 (lim b 1), .int .u64 (lim b 2), .int .u64 (lim b 3)] 24)) 24 #[.int .u64 0, .int .u64 0, .int .u64 0, .int .u64 0]
  simp only [World.size_alloc] at LR
  have k13 := LX.cell 0 _ rfl
  have k14 := LX.cell 1 _ rfl
  have k15 := LX.cell 2 _ rfl
  have k16 := LX.cell 3 _ rfl
  have k17 := LN.cell 0 _ rfl
  have k18 := LN.cell 1 _ rfl
  have k19 := LN.cell 2 _ rfl
  have k20 := LN.cell 3 _ rfl
  have k21 := LR.cell 0 _ rfl
  have k22 := LR.cell 1 _ rfl
  have k23 := LR.cell 2 _ rfl
  have k24 := LR.cell 3 _ rfl
  have Q := (Below.refl w.heap.size w)
  have Q := Q.alloc Q.size (.cells #[.int .u64 (lim a 0), .int .u64 (lim a 1), .int .u64 (lim a 2), .int .u64 (lim a 3)] 24)
  have Q := Q.alloc Q.size (.cells #[.int .u64 (lim b 0), .int .u64 (lim b 1), .int .u64 (lim b 2), .int .u64 (lim b 3)] 24)
  have Q := Q.alloc Q.size (.cells #[.int .u64 0, .int .u64 0, .int .u64 0, .int .u64 0] 24)
  go_wp2_with fail
  clear k1 k2 k3 k4 k5 k6 k7 k8 k9 k10 k11 k12 k13 k14 k15 k16 k17 k18 k19 k20 k21 k22 k23 k24
  obtain ⟨W1, hW1⟩ : ∃ W1, (((w.alloc (.cells #[.int .u64 (lim a 0), .int .u64 (lim a 1), .int .u64 (lim a 2), .int .u64 (lim a 3)] 24)).alloc (.cells #[.int .u64 (lim b 0), .int .u64 (lim b 1), .int .u64 (lim b 2), .int .u64 (lim b 3)] 24)).alloc (.cells #[.int .u64 0, .int .u64 0, .int .u64 0, .int .u64 0] 24)) = W1 := ⟨_, rfl⟩
  rw [hW1] at LX LN LR Q ⊢
  clear hW1
  refine wp_region_ghost [some (.agg #[.int .u64 (lim a 0), .int .u64 (lim a 1), .int .u64 (lim a 2), .int .u64 (lim a 3)]), some (.agg #[.int .u64 (lim x 0), .int .u64 (lim x 1), .int .u64 (lim x 2), .int .u64 (lim x 3)]), some (.agg #[.int .u64 (lim b 0), .int .u64 (lim b 1), .int .u64 (lim b 2), .int .u64 (lim b 3)]), some (.agg #[.int .u64 (lim y 0), .int .u64 (lim y 1), .int .u64 (lim y 2), .int .u64 (lim y 3)]), some (.agg #[.int .u64 (lim q 0), .int .u64 (lim q 1), .int .u64 (lim q 2), .int .u64 (lim q 3)]), none, none] [[], [0], [], [0, 1, 2], [0, 1, 2, 3], [], [0, 1, 2, 3, 4, 5]] (fun f g w' => Below W1.heap.size W1 w' ∧ (f 5 = true → ∃ B, g 5 = .pointer (some ⟨B, 0, none⟩) ∧ W1.heap.size ≤ B ∧ Has w' B 24 (cellsIf (f 6) #[.int .u64 (lim q 0), .int .u64 (lim q 1), .int .u64 (lim q 2), .int .u64 (lim q 3)] #[.int .u64 0, .int .u64 0, .int .u64 0, .int .u64 0])))
    (by kernel_rfl) (by kernel_rfl) (by kernel_rfl) ?_ ?_ ?_ ?_
  · rintro f g wa wb ⟨h1, h2⟩ hb
    exact ⟨h1.trans (hb.mono h1.size), fun h => let ⟨B, e, hB, hL⟩ := h2 h; ⟨B, e, hB, hL.later hb⟩⟩
  · intro f f' g g' wa h
    have ha := h 5 rfl
    have hs := h 6 rfl
    simp only [ha.1, ha.2, hs.1]
    exact id
  · exact ⟨(Below.refl _ _).drew, by simp⟩
  rintro f g y25 ⟨h1, h2⟩ Dn
  have LX := LX.later h1
  have LN := LN.later h1
  have LR := LR.later h1
  have k26 := LX.cell 0 _ rfl
  have k27 := LX.cell 1 _ rfl
  have k28 := LX.cell 2 _ rfl
  have k29 := LX.cell 3 _ rfl
  have k30 := LN.cell 0 _ rfl
  have k31 := LN.cell 1 _ rfl
  have k32 := LN.cell 2 _ rfl
  have k33 := LN.cell 3 _ rfl
  have k34 := LR.cell 0 _ rfl
  have k35 := LR.cell 1 _ rfl
  have k36 := LR.cell 2 _ rfl
  have k37 := LR.cell 3 _ rfl
  refine GW.known _ rfl (fun hd hf => ?_) ?_
  · go_wp2
    exact ⟨rfl, rfl, Below.refl _ _⟩
  simp only [Act.put, List.setIfInBounds_toArray, List.set_cons_succ, List.set_cons_zero]
  refine GW.known _ rfl (fun hd hf => ?_) ?_
  · go_wp2_with fail
    refine (Hhx.out _).mono ?_
    rintro e u ⟨rfl, hb⟩
    go_wp2
    exact ⟨rfl, rfl, hb⟩
  simp only [Act.put, List.setIfInBounds_toArray, List.set_cons_succ, List.set_cons_zero]
  refine GW.known _ rfl (fun hd hf => ?_) ?_
  · go_wp2
    exact ⟨rfl, rfl, Below.refl _ _⟩
  simp only [Act.put, List.setIfInBounds_toArray, List.set_cons_succ, List.set_cons_zero]
  refine GW.known _ rfl (fun hd hf => ?_) ?_
  · go_wp2_with fail
    refine (Hhy.out _).mono ?_
    rintro e u ⟨rfl, hb⟩
    go_wp2
    exact ⟨rfl, rfl, hb⟩
  simp only [Act.put, List.setIfInBounds_toArray, List.set_cons_succ, List.set_cons_zero]
  refine GW.known _ rfl (fun hd hf => ?_) ?_
  · go_wp2_with fail
    refine (Hhd.out _).mono ?_
    rintro e u ⟨rfl, hb⟩
    go_wp2
    exact ⟨rfl, rfl, hb⟩
  simp only [Act.put, List.setIfInBounds_toArray, List.set_cons_succ, List.set_cons_zero]
  refine GW.open rfl (fun hd hf => ?_) ?_
  · have fs : f 6 = false := by
      cases h : f 6 with
      | false => rfl
      | true => have := Dn 6 h 5 (by decide); rw [hf] at this; cases this
    have fu : upd f 5 true 6 = false := (upd_ne f true (show (6 : Nat) ≠ 5 by decide)).trans fs
    go_wp2
    refine ⟨rfl, h1.alloc h1.size _, fun _ => ⟨_, rfl, h1.size, ?_⟩⟩
    show Has _ _ 24 (cellsIf (upd f 5 true 6) #[.int .u64 (lim q 0), .int .u64 (lim q 1), .int .u64 (lim q 2), .int .u64 (lim q 3)] #[.int .u64 0, .int .u64 0, .int .u64 0, .int .u64 0])
    rw [fu, cellsIf_false]
    exact Has.new _ _ _
  simp only [Act.put, List.setIfInBounds_toArray, List.set_cons_succ, List.set_cons_zero]
  refine GW.open rfl (fun hd hf => ?_) ?_
  · obtain ⟨B, eB, hB, LB⟩ := h2 (hd 5 (by decide))
    rw [hf, cellsIf_false] at LB
    rw [eB]
    have c0 := LB.cell 0 _ rfl
    have z0 := LB.frozen 0
    have c1 := LB.cell 1 _ rfl
    have z1 := LB.frozen 1
    have c2 := LB.cell 2 _ rfl
    have z2 := LB.frozen 2
    have c3 := LB.cell 3 _ rfl
    have z3 := LB.frozen 3
    go_wp2
    refine ⟨rfl, ((((h1.setCell (p := ⟨B, 0, none⟩) hB (.int .u64 (lim q 0))).setCell (p := ⟨B, 1, none⟩) hB (.int .u64 (lim q 1))).setCell (p := ⟨B, 2, none⟩) hB (.int .u64 (lim q 2))).setCell (p := ⟨B, 3, none⟩) hB (.int .u64 (lim q 3))), fun _ => ⟨B, eB, hB, ?_⟩⟩
    show Has _ B 24 (cellsIf (upd f 6 true 6) #[.int .u64 (lim q 0), .int .u64 (lim q 1), .int .u64 (lim q 2), .int .u64 (lim q 3)] #[.int .u64 0, .int .u64 0, .int .u64 0, .int .u64 0])
    rw [upd_self, cellsIf_true]
    exact ((((LB.set 0 (.int .u64 (lim q 0))).set 1 (.int .u64 (lim q 1))).set 2 (.int .u64 (lim q 2))).set 3 (.int .u64 (lim q 3)))
  simp only [Act.put, List.setIfInBounds_toArray, List.set_cons_succ, List.set_cons_zero]
  refine GW.nil (fun hall => ?_)
  obtain ⟨b25, eB, hB, LS⟩ := h2 (hall 5 (by omega))
  rw [hall 6 (by omega), cellsIf_true] at LS
  have Q := Q.trans (h1.mono Q.size)
  clear h2 Dn hall k26 k27 k28 k29 k30 k31 k32 k33 k34 k35 k36 k37
  rw [eB]
  clear eB hB h1
  have k38 := LX.cell 0 _ rfl
  have k39 := LX.cell 1 _ rfl
  have k40 := LX.cell 2 _ rfl
  have k41 := LX.cell 3 _ rfl
  have k42 := LN.cell 0 _ rfl
  have k43 := LN.cell 1 _ rfl
  have k44 := LN.cell 2 _ rfl
  have k45 := LN.cell 3 _ rfl
  have k46 := LR.cell 0 _ rfl
  have k47 := LR.cell 1 _ rfl
  have k48 := LR.cell 2 _ rfl
  have k49 := LR.cell 3 _ rfl
  have k50 := LS.cell 0 _ rfl
  have k51 := LS.cell 1 _ rfl
  have k52 := LS.cell 2 _ rfl
  have k53 := LS.cell 3 _ rfl
  go_wp2_with fail
  clear k38 k39 k40 k41 k42 k43 k44 k45 k46 k47 k48 k49 k50 k51 k52 k53
  have k54 : ∀ y : Ext y25, y.w.cell? ⟨w.heap.size, 0, none⟩ = some (.int .u64 (lim a 0)) := fun y => (LX.later y.below).cell 0 _ rfl
  have k55 : ∀ y : Ext y25, y.w.cell? ⟨w.heap.size, 1, none⟩ = some (.int .u64 (lim a 1)) := fun y => (LX.later y.below).cell 1 _ rfl
  have k56 : ∀ y : Ext y25, y.w.cell? ⟨w.heap.size, 2, none⟩ = some (.int .u64 (lim a 2)) := fun y => (LX.later y.below).cell 2 _ rfl
  have k57 : ∀ y : Ext y25, y.w.cell? ⟨w.heap.size, 3, none⟩ = some (.int .u64 (lim a 3)) := fun y => (LX.later y.below).cell 3 _ rfl
  have k58 : ∀ y : Ext y25, y.w.cell? ⟨w.heap.size + 1, 0, none⟩ = some (.int .u64 (lim b 0)) := fun y => (LN.later y.below).cell 0 _ rfl
  have k59 : ∀ y : Ext y25, y.w.cell? ⟨w.heap.size + 1, 1, none⟩ = some (.int .u64 (lim b 1)) := fun y => (LN.later y.below).cell 1 _ rfl
  have k60 : ∀ y : Ext y25, y.w.cell? ⟨w.heap.size + 1, 2, none⟩ = some (.int .u64 (lim b 2)) := fun y => (LN.later y.below).cell 2 _ rfl
  have k61 : ∀ y : Ext y25, y.w.cell? ⟨w.heap.size + 1, 3, none⟩ = some (.int .u64 (lim b 3)) := fun y => (LN.later y.below).cell 3 _ rfl
  have k62 : ∀ y : Ext y25, y.w.cell? ⟨w.heap.size + 1 + 1, 0, none⟩ = some (.int .u64 0) := fun y => (LR.later y.below).cell 0 _ rfl
  have k63 : ∀ y : Ext y25, y.w.cell? ⟨w.heap.size + 1 + 1, 1, none⟩ = some (.int .u64 0) := fun y => (LR.later y.below).cell 1 _ rfl
  have k64 : ∀ y : Ext y25, y.w.cell? ⟨w.heap.size + 1 + 1, 2, none⟩ = some (.int .u64 0) := fun y => (LR.later y.below).cell 2 _ rfl
  have k65 : ∀ y : Ext y25, y.w.cell? ⟨w.heap.size + 1 + 1, 3, none⟩ = some (.int .u64 0) := fun y => (LR.later y.below).cell 3 _ rfl
  have k66 : ∀ y : Ext y25, y.w.cell? ⟨b25, 0, none⟩ = some (.int .u64 (lim q 0)) := fun y => (LS.later y.below).cell 0 _ rfl
  have k67 : ∀ y : Ext y25, y.w.cell? ⟨b25, 1, none⟩ = some (.int .u64 (lim q 1)) := fun y => (LS.later y.below).cell 1 _ rfl
  have k68 : ∀ y : Ext y25, y.w.cell? ⟨b25, 2, none⟩ = some (.int .u64 (lim q 2)) := fun y => (LS.later y.below).cell 2 _ rfl
  have k69 : ∀ y : Ext y25, y.w.cell? ⟨b25, 3, none⟩ = some (.int .u64 (lim q 3)) := fun y => (LS.later y.below).cell 3 _ rfl
  refine wp_region_quick (C := Grows y25) (by kernel_rfl) (by kernel_rfl) (by kernel_rfl) (grows_refl y25) ?_
  repeat (go_big_quiet_step (first | (with_reducible exact Ret.at Hba.out _) | (with_reducible exact Ret.at Hbb.out _)))
  refine wpQuiet_nil ?_
  rintro _ ⟨x70, rfl⟩
  clear k54 k55 k56 k57 k58 k59 k60 k61 k62 k63 k64 k65 k66 k67 k68 k69
  have LX := LX.later x70.below
  have LN := LN.later x70.below
  have LR := LR.later x70.below
  have LS := LS.later x70.below
  have Q := Q.trans (x70.below.mono Q.size)
  have r0 := LR.cell 0 _ rfl
  have z0 := LR.frozen 0
  have r1 := LR.cell 1 _ rfl
  have z1 := LR.frozen 1
  have r2 := LR.cell 2 _ rfl
  have z2 := LR.frozen 2
  have r3 := LR.cell 3 _ rfl
  have z3 := LR.frozen 3
  have k71 := LX.cell 0 _ rfl
  have k72 := LX.cell 1 _ rfl
  have k73 := LX.cell 2 _ rfl
  have k74 := LX.cell 3 _ rfl
  have k75 := LN.cell 0 _ rfl
  have k76 := LN.cell 1 _ rfl
  have k77 := LN.cell 2 _ rfl
  have k78 := LN.cell 3 _ rfl
  have k79 := LS.cell 0 _ rfl
  have k80 := LS.cell 1 _ rfl
  have k81 := LS.cell 2 _ rfl
  have k82 := LS.cell 3 _ rfl
  have HR := Lib.hid (((((LR.set 0 (.int .u64 (lim q 0))).set 1 (.int .u64 (lim q 1))).set 2 (.int .u64 (lim q 2))).set 3 (.int .u64 (lim q 3))))
  have HQ := Lib.hid (((((Q.setCell (p := ⟨w.heap.size + 1 + 1, 0, none⟩) (show w.heap.size ≤ _ by simp; first | done | omega) (.int .u64 (lim q 0))).setCell (p := ⟨w.heap.size + 1 + 1, 1, none⟩) (show w.heap.size ≤ _ by simp; first | done | omega) (.int .u64 (lim q 1))).setCell (p := ⟨w.heap.size + 1 + 1, 2, none⟩) (show w.heap.size ≤ _ by simp; first | done | omega) (.int .u64 (lim q 2))).setCell (p := ⟨w.heap.size + 1 + 1, 3, none⟩) (show w.heap.size ≤ _ by simp; first | done | omega) (.int .u64 (lim q 3))))
  clear Q LX LN LR LS
  go_wp2
  refine bodyPost_ret (results_word (m := lim q) rfl rfl HR.out) rfl ⟨rfl, HQ.out⟩

set_option maxRecDepth 100000 in
set_option maxHeartbeats 4000000 in
theorem refSdiv_true_false (a b x y q s : Nat) (hx : Ret Try.prog 26 #[.agg #[.int .u64 (lim a 0), .int .u64 (lim a 1), .int .u64 (lim a 2), .int .u64 (lim a 3)]] (.agg #[.int .u64 (lim x 0), .int .u64 (lim x 1), .int .u64 (lim x 2), .int .u64 (lim x 3)])) (hy : Ret Try.prog 26 #[.agg #[.int .u64 (lim b 0), .int .u64 (lim b 1), .int .u64 (lim b 2), .int .u64 (lim b 3)]] (.agg #[.int .u64 (lim y 0), .int .u64 (lim y 1), .int .u64 (lim y 2), .int .u64 (lim y 3)])) (hd : Ret Try.prog 6 #[.agg #[.int .u64 (lim x 0), .int .u64 (lim x 1), .int .u64 (lim x 2), .int .u64 (lim x 3)], .agg #[.int .u64 (lim y 0), .int .u64 (lim y 1), .int .u64 (lim y 2), .int .u64 (lim y 3)]] (.agg #[.int .u64 (lim q 0), .int .u64 (lim q 1), .int .u64 (lim q 2), .int .u64 (lim q 3)])) (ba : Ret Try.prog 27 #[.agg #[.int .u64 (lim a 0), .int .u64 (lim a 1), .int .u64 (lim a 2), .int .u64 (lim a 3)]] (.bool true)) (bb : Ret Try.prog 27 #[.agg #[.int .u64 (lim b 0), .int .u64 (lim b 1), .int .u64 (lim b 2), .int .u64 (lim b 3)]] (.bool false)) (hm : Ret Try.prog 28 #[.agg #[.int .u64 (lim q 0), .int .u64 (lim q 1), .int .u64 (lim q 2), .int .u64 (lim q 3)]] (.agg #[.int .u64 (lim s 0), .int .u64 (lim s 1), .int .u64 (lim s 2), .int .u64 (lim s 3)])) :
    Ret Try.prog 10 #[.agg #[.int .u64 (lim a 0), .int .u64 (lim a 1), .int .u64 (lim a 2), .int .u64 (lim a 3)], .agg #[.int .u64 (lim b 0), .int .u64 (lim b 1), .int .u64 (lim b 2), .int .u64 (lim b 3)]] (.agg #[.int .u64 (lim s 0), .int .u64 (lim s 1), .int .u64 (lim s 2), .int .u64 (lim s 3)]) := by
  intro w
  have Hhx := Lib.hid hx
  have Hhy := Lib.hid hy
  have Hhd := Lib.hid hd
  have Hba := Lib.hid ba
  have Hbb := Lib.hid bb
  have Hhm := Lib.hid hm
  clear hx hy hd ba bb hm
  go_enter Try.func10, Try.ntmps10
  have LX := Has.new w 24 #[.int .u64 (lim a 0), .int .u64 (lim a 1), .int .u64 (lim a 2), .int .u64 (lim a 3)]
  have k1 := LX.cell 0 _ rfl
  have k2 := LX.cell 1 _ rfl
  have k3 := LX.cell 2 _ rfl
  have k4 := LX.cell 3 _ rfl
  have LX := LX.alloc (.cells #[.int .u64 (lim b 0), .int .u64 (lim b 1), .int .u64 (lim b 2), .int .u64 (lim b 3)] 24)
  have LN := Has.new (w.alloc (.cells #[.int .u64 (lim a 0), .int .u64 (lim a 1), .int .u64 (lim a 2), .int .u64 (lim a 3)] 24)) 24 #[.int .u64 (lim b 0), .int .u64 (lim b 1), .int .u64 (lim b 2), .int .u64 (lim b 3)]
  simp only [World.size_alloc] at LN
  have k5 := LX.cell 0 _ rfl
  have k6 := LX.cell 1 _ rfl
  have k7 := LX.cell 2 _ rfl
  have k8 := LX.cell 3 _ rfl
  have k9 := LN.cell 0 _ rfl
  have k10 := LN.cell 1 _ rfl
  have k11 := LN.cell 2 _ rfl
  have k12 := LN.cell 3 _ rfl
  have LX := LX.alloc (.cells #[.int .u64 0, .int .u64 0, .int .u64 0, .int .u64 0] 24)
  have LN := LN.alloc (.cells #[.int .u64 0, .int .u64 0, .int .u64 0, .int .u64 0] 24)
  have LR := Has.new ((w.alloc (.cells #[.int .u64 (lim a 0), .int .u64 (lim a 1), .int .u64 (lim a 2), .int .u64 (lim a 3)] 24)).alloc (.cells #[.int .u64 (lim b 0), .int .u64 (lim b 1), .int .u64 (lim b 2), .int .u64 (lim b 3)] 24)) 24 #[.int .u64 0, .int .u64 0, .int .u64 0, .int .u64 0]
  simp only [World.size_alloc] at LR
  have k13 := LX.cell 0 _ rfl
  have k14 := LX.cell 1 _ rfl
  have k15 := LX.cell 2 _ rfl
  have k16 := LX.cell 3 _ rfl
  have k17 := LN.cell 0 _ rfl
  have k18 := LN.cell 1 _ rfl
  have k19 := LN.cell 2 _ rfl
  have k20 := LN.cell 3 _ rfl
  have k21 := LR.cell 0 _ rfl
  have k22 := LR.cell 1 _ rfl
  have k23 := LR.cell 2 _ rfl
  have k24 := LR.cell 3 _ rfl
  have Q := (Below.refl w.heap.size w)
  have Q := Q.alloc Q.size (.cells #[.int .u64 (lim a 0), .int .u64 (lim a 1), .int .u64 (lim a 2), .int .u64 (lim a 3)] 24)
  have Q := Q.alloc Q.size (.cells #[.int .u64 (lim b 0), .int .u64 (lim b 1), .int .u64 (lim b 2), .int .u64 (lim b 3)] 24)
  have Q := Q.alloc Q.size (.cells #[.int .u64 0, .int .u64 0, .int .u64 0, .int .u64 0] 24)
  go_wp2_with fail
  clear k1 k2 k3 k4 k5 k6 k7 k8 k9 k10 k11 k12 k13 k14 k15 k16 k17 k18 k19 k20 k21 k22 k23 k24
  obtain ⟨W1, hW1⟩ : ∃ W1, (((w.alloc (.cells #[.int .u64 (lim a 0), .int .u64 (lim a 1), .int .u64 (lim a 2), .int .u64 (lim a 3)] 24)).alloc (.cells #[.int .u64 (lim b 0), .int .u64 (lim b 1), .int .u64 (lim b 2), .int .u64 (lim b 3)] 24)).alloc (.cells #[.int .u64 0, .int .u64 0, .int .u64 0, .int .u64 0] 24)) = W1 := ⟨_, rfl⟩
  rw [hW1] at LX LN LR Q ⊢
  clear hW1
  refine wp_region_ghost [some (.agg #[.int .u64 (lim a 0), .int .u64 (lim a 1), .int .u64 (lim a 2), .int .u64 (lim a 3)]), some (.agg #[.int .u64 (lim x 0), .int .u64 (lim x 1), .int .u64 (lim x 2), .int .u64 (lim x 3)]), some (.agg #[.int .u64 (lim b 0), .int .u64 (lim b 1), .int .u64 (lim b 2), .int .u64 (lim b 3)]), some (.agg #[.int .u64 (lim y 0), .int .u64 (lim y 1), .int .u64 (lim y 2), .int .u64 (lim y 3)]), some (.agg #[.int .u64 (lim q 0), .int .u64 (lim q 1), .int .u64 (lim q 2), .int .u64 (lim q 3)]), none, none] [[], [0], [], [0, 1, 2], [0, 1, 2, 3], [], [0, 1, 2, 3, 4, 5]] (fun f g w' => Below W1.heap.size W1 w' ∧ (f 5 = true → ∃ B, g 5 = .pointer (some ⟨B, 0, none⟩) ∧ W1.heap.size ≤ B ∧ Has w' B 24 (cellsIf (f 6) #[.int .u64 (lim q 0), .int .u64 (lim q 1), .int .u64 (lim q 2), .int .u64 (lim q 3)] #[.int .u64 0, .int .u64 0, .int .u64 0, .int .u64 0])))
    (by kernel_rfl) (by kernel_rfl) (by kernel_rfl) ?_ ?_ ?_ ?_
  · rintro f g wa wb ⟨h1, h2⟩ hb
    exact ⟨h1.trans (hb.mono h1.size), fun h => let ⟨B, e, hB, hL⟩ := h2 h; ⟨B, e, hB, hL.later hb⟩⟩
  · intro f f' g g' wa h
    have ha := h 5 rfl
    have hs := h 6 rfl
    simp only [ha.1, ha.2, hs.1]
    exact id
  · exact ⟨(Below.refl _ _).drew, by simp⟩
  rintro f g y25 ⟨h1, h2⟩ Dn
  have LX := LX.later h1
  have LN := LN.later h1
  have LR := LR.later h1
  have k26 := LX.cell 0 _ rfl
  have k27 := LX.cell 1 _ rfl
  have k28 := LX.cell 2 _ rfl
  have k29 := LX.cell 3 _ rfl
  have k30 := LN.cell 0 _ rfl
  have k31 := LN.cell 1 _ rfl
  have k32 := LN.cell 2 _ rfl
  have k33 := LN.cell 3 _ rfl
  have k34 := LR.cell 0 _ rfl
  have k35 := LR.cell 1 _ rfl
  have k36 := LR.cell 2 _ rfl
  have k37 := LR.cell 3 _ rfl
  refine GW.known _ rfl (fun hd hf => ?_) ?_
  · go_wp2
    exact ⟨rfl, rfl, Below.refl _ _⟩
  simp only [Act.put, List.setIfInBounds_toArray, List.set_cons_succ, List.set_cons_zero]
  refine GW.known _ rfl (fun hd hf => ?_) ?_
  · go_wp2_with fail
    refine (Hhx.out _).mono ?_
    rintro e u ⟨rfl, hb⟩
    go_wp2
    exact ⟨rfl, rfl, hb⟩
  simp only [Act.put, List.setIfInBounds_toArray, List.set_cons_succ, List.set_cons_zero]
  refine GW.known _ rfl (fun hd hf => ?_) ?_
  · go_wp2
    exact ⟨rfl, rfl, Below.refl _ _⟩
  simp only [Act.put, List.setIfInBounds_toArray, List.set_cons_succ, List.set_cons_zero]
  refine GW.known _ rfl (fun hd hf => ?_) ?_
  · go_wp2_with fail
    refine (Hhy.out _).mono ?_
    rintro e u ⟨rfl, hb⟩
    go_wp2
    exact ⟨rfl, rfl, hb⟩
  simp only [Act.put, List.setIfInBounds_toArray, List.set_cons_succ, List.set_cons_zero]
  refine GW.known _ rfl (fun hd hf => ?_) ?_
  · go_wp2_with fail
    refine (Hhd.out _).mono ?_
    rintro e u ⟨rfl, hb⟩
    go_wp2
    exact ⟨rfl, rfl, hb⟩
  simp only [Act.put, List.setIfInBounds_toArray, List.set_cons_succ, List.set_cons_zero]
  refine GW.open rfl (fun hd hf => ?_) ?_
  · have fs : f 6 = false := by
      cases h : f 6 with
      | false => rfl
      | true => have := Dn 6 h 5 (by decide); rw [hf] at this; cases this
    have fu : upd f 5 true 6 = false := (upd_ne f true (show (6 : Nat) ≠ 5 by decide)).trans fs
    go_wp2
    refine ⟨rfl, h1.alloc h1.size _, fun _ => ⟨_, rfl, h1.size, ?_⟩⟩
    show Has _ _ 24 (cellsIf (upd f 5 true 6) #[.int .u64 (lim q 0), .int .u64 (lim q 1), .int .u64 (lim q 2), .int .u64 (lim q 3)] #[.int .u64 0, .int .u64 0, .int .u64 0, .int .u64 0])
    rw [fu, cellsIf_false]
    exact Has.new _ _ _
  simp only [Act.put, List.setIfInBounds_toArray, List.set_cons_succ, List.set_cons_zero]
  refine GW.open rfl (fun hd hf => ?_) ?_
  · obtain ⟨B, eB, hB, LB⟩ := h2 (hd 5 (by decide))
    rw [hf, cellsIf_false] at LB
    rw [eB]
    have c0 := LB.cell 0 _ rfl
    have z0 := LB.frozen 0
    have c1 := LB.cell 1 _ rfl
    have z1 := LB.frozen 1
    have c2 := LB.cell 2 _ rfl
    have z2 := LB.frozen 2
    have c3 := LB.cell 3 _ rfl
    have z3 := LB.frozen 3
    go_wp2
    refine ⟨rfl, ((((h1.setCell (p := ⟨B, 0, none⟩) hB (.int .u64 (lim q 0))).setCell (p := ⟨B, 1, none⟩) hB (.int .u64 (lim q 1))).setCell (p := ⟨B, 2, none⟩) hB (.int .u64 (lim q 2))).setCell (p := ⟨B, 3, none⟩) hB (.int .u64 (lim q 3))), fun _ => ⟨B, eB, hB, ?_⟩⟩
    show Has _ B 24 (cellsIf (upd f 6 true 6) #[.int .u64 (lim q 0), .int .u64 (lim q 1), .int .u64 (lim q 2), .int .u64 (lim q 3)] #[.int .u64 0, .int .u64 0, .int .u64 0, .int .u64 0])
    rw [upd_self, cellsIf_true]
    exact ((((LB.set 0 (.int .u64 (lim q 0))).set 1 (.int .u64 (lim q 1))).set 2 (.int .u64 (lim q 2))).set 3 (.int .u64 (lim q 3)))
  simp only [Act.put, List.setIfInBounds_toArray, List.set_cons_succ, List.set_cons_zero]
  refine GW.nil (fun hall => ?_)
  obtain ⟨b25, eB, hB, LS⟩ := h2 (hall 5 (by omega))
  rw [hall 6 (by omega), cellsIf_true] at LS
  have Q := Q.trans (h1.mono Q.size)
  clear h2 Dn hall k26 k27 k28 k29 k30 k31 k32 k33 k34 k35 k36 k37
  rw [eB]
  clear eB hB h1
  have k38 := LX.cell 0 _ rfl
  have k39 := LX.cell 1 _ rfl
  have k40 := LX.cell 2 _ rfl
  have k41 := LX.cell 3 _ rfl
  have k42 := LN.cell 0 _ rfl
  have k43 := LN.cell 1 _ rfl
  have k44 := LN.cell 2 _ rfl
  have k45 := LN.cell 3 _ rfl
  have k46 := LR.cell 0 _ rfl
  have k47 := LR.cell 1 _ rfl
  have k48 := LR.cell 2 _ rfl
  have k49 := LR.cell 3 _ rfl
  have k50 := LS.cell 0 _ rfl
  have k51 := LS.cell 1 _ rfl
  have k52 := LS.cell 2 _ rfl
  have k53 := LS.cell 3 _ rfl
  go_wp2_with fail
  clear k38 k39 k40 k41 k42 k43 k44 k45 k46 k47 k48 k49 k50 k51 k52 k53
  have k54 : ∀ y : Ext y25, y.w.cell? ⟨w.heap.size, 0, none⟩ = some (.int .u64 (lim a 0)) := fun y => (LX.later y.below).cell 0 _ rfl
  have k55 : ∀ y : Ext y25, y.w.cell? ⟨w.heap.size, 1, none⟩ = some (.int .u64 (lim a 1)) := fun y => (LX.later y.below).cell 1 _ rfl
  have k56 : ∀ y : Ext y25, y.w.cell? ⟨w.heap.size, 2, none⟩ = some (.int .u64 (lim a 2)) := fun y => (LX.later y.below).cell 2 _ rfl
  have k57 : ∀ y : Ext y25, y.w.cell? ⟨w.heap.size, 3, none⟩ = some (.int .u64 (lim a 3)) := fun y => (LX.later y.below).cell 3 _ rfl
  have k58 : ∀ y : Ext y25, y.w.cell? ⟨w.heap.size + 1, 0, none⟩ = some (.int .u64 (lim b 0)) := fun y => (LN.later y.below).cell 0 _ rfl
  have k59 : ∀ y : Ext y25, y.w.cell? ⟨w.heap.size + 1, 1, none⟩ = some (.int .u64 (lim b 1)) := fun y => (LN.later y.below).cell 1 _ rfl
  have k60 : ∀ y : Ext y25, y.w.cell? ⟨w.heap.size + 1, 2, none⟩ = some (.int .u64 (lim b 2)) := fun y => (LN.later y.below).cell 2 _ rfl
  have k61 : ∀ y : Ext y25, y.w.cell? ⟨w.heap.size + 1, 3, none⟩ = some (.int .u64 (lim b 3)) := fun y => (LN.later y.below).cell 3 _ rfl
  have k62 : ∀ y : Ext y25, y.w.cell? ⟨w.heap.size + 1 + 1, 0, none⟩ = some (.int .u64 0) := fun y => (LR.later y.below).cell 0 _ rfl
  have k63 : ∀ y : Ext y25, y.w.cell? ⟨w.heap.size + 1 + 1, 1, none⟩ = some (.int .u64 0) := fun y => (LR.later y.below).cell 1 _ rfl
  have k64 : ∀ y : Ext y25, y.w.cell? ⟨w.heap.size + 1 + 1, 2, none⟩ = some (.int .u64 0) := fun y => (LR.later y.below).cell 2 _ rfl
  have k65 : ∀ y : Ext y25, y.w.cell? ⟨w.heap.size + 1 + 1, 3, none⟩ = some (.int .u64 0) := fun y => (LR.later y.below).cell 3 _ rfl
  have k66 : ∀ y : Ext y25, y.w.cell? ⟨b25, 0, none⟩ = some (.int .u64 (lim q 0)) := fun y => (LS.later y.below).cell 0 _ rfl
  have k67 : ∀ y : Ext y25, y.w.cell? ⟨b25, 1, none⟩ = some (.int .u64 (lim q 1)) := fun y => (LS.later y.below).cell 1 _ rfl
  have k68 : ∀ y : Ext y25, y.w.cell? ⟨b25, 2, none⟩ = some (.int .u64 (lim q 2)) := fun y => (LS.later y.below).cell 2 _ rfl
  have k69 : ∀ y : Ext y25, y.w.cell? ⟨b25, 3, none⟩ = some (.int .u64 (lim q 3)) := fun y => (LS.later y.below).cell 3 _ rfl
  refine wp_region_quick (C := Grows y25) (by kernel_rfl) (by kernel_rfl) (by kernel_rfl) (grows_refl y25) ?_
  repeat (go_big_quiet_step (first | (with_reducible exact Ret.at Hba.out _) | (with_reducible exact Ret.at Hbb.out _)))
  refine wpQuiet_nil ?_
  rintro _ ⟨x70, rfl⟩
  clear k54 k55 k56 k57 k58 k59 k60 k61 k62 k63 k64 k65 k66 k67 k68 k69
  have LX := LX.later x70.below
  have LN := LN.later x70.below
  have LR := LR.later x70.below
  have LS := LS.later x70.below
  have Q := Q.trans (x70.below.mono Q.size)
  have k71 := LX.cell 0 _ rfl
  have k72 := LX.cell 1 _ rfl
  have k73 := LX.cell 2 _ rfl
  have k74 := LX.cell 3 _ rfl
  have k75 := LN.cell 0 _ rfl
  have k76 := LN.cell 1 _ rfl
  have k77 := LN.cell 2 _ rfl
  have k78 := LN.cell 3 _ rfl
  have k79 := LR.cell 0 _ rfl
  have k80 := LR.cell 1 _ rfl
  have k81 := LR.cell 2 _ rfl
  have k82 := LR.cell 3 _ rfl
  have k83 := LS.cell 0 _ rfl
  have k84 := LS.cell 1 _ rfl
  have k85 := LS.cell 2 _ rfl
  have k86 := LS.cell 3 _ rfl
  go_wp2_with fail
  clear k71 k72 k73 k74 k75 k76 k77 k78 k79 k80 k81 k82 k83 k84 k85 k86
  refine (Hhm.out _).mono ?_
  rintro e v87 ⟨rfl, q⟩
  have LX := LX.later q
  have LN := LN.later q
  have LR := LR.later q
  have LS := LS.later q
  have Q := Q.trans (q.mono Q.size)
  clear q
  have r0 := LR.cell 0 _ rfl
  have z0 := LR.frozen 0
  have r1 := LR.cell 1 _ rfl
  have z1 := LR.frozen 1
  have r2 := LR.cell 2 _ rfl
  have z2 := LR.frozen 2
  have r3 := LR.cell 3 _ rfl
  have z3 := LR.frozen 3
  have k88 := LX.cell 0 _ rfl
  have k89 := LX.cell 1 _ rfl
  have k90 := LX.cell 2 _ rfl
  have k91 := LX.cell 3 _ rfl
  have k92 := LN.cell 0 _ rfl
  have k93 := LN.cell 1 _ rfl
  have k94 := LN.cell 2 _ rfl
  have k95 := LN.cell 3 _ rfl
  have k96 := LS.cell 0 _ rfl
  have k97 := LS.cell 1 _ rfl
  have k98 := LS.cell 2 _ rfl
  have k99 := LS.cell 3 _ rfl
  have HR := Lib.hid (((((LR.set 0 (.int .u64 (lim s 0))).set 1 (.int .u64 (lim s 1))).set 2 (.int .u64 (lim s 2))).set 3 (.int .u64 (lim s 3))))
  have HQ := Lib.hid (((((Q.setCell (p := ⟨w.heap.size + 1 + 1, 0, none⟩) (show w.heap.size ≤ _ by simp; first | done | omega) (.int .u64 (lim s 0))).setCell (p := ⟨w.heap.size + 1 + 1, 1, none⟩) (show w.heap.size ≤ _ by simp; first | done | omega) (.int .u64 (lim s 1))).setCell (p := ⟨w.heap.size + 1 + 1, 2, none⟩) (show w.heap.size ≤ _ by simp; first | done | omega) (.int .u64 (lim s 2))).setCell (p := ⟨w.heap.size + 1 + 1, 3, none⟩) (show w.heap.size ≤ _ by simp; first | done | omega) (.int .u64 (lim s 3))))
  clear Q LX LN LR LS
  go_wp2
  refine bodyPost_ret (results_word (m := lim s) rfl rfl HR.out) rfl ⟨rfl, HQ.out⟩

set_option maxRecDepth 100000 in
set_option maxHeartbeats 4000000 in
theorem refSdiv_false_true (a b x y q s : Nat) (hx : Ret Try.prog 26 #[.agg #[.int .u64 (lim a 0), .int .u64 (lim a 1), .int .u64 (lim a 2), .int .u64 (lim a 3)]] (.agg #[.int .u64 (lim x 0), .int .u64 (lim x 1), .int .u64 (lim x 2), .int .u64 (lim x 3)])) (hy : Ret Try.prog 26 #[.agg #[.int .u64 (lim b 0), .int .u64 (lim b 1), .int .u64 (lim b 2), .int .u64 (lim b 3)]] (.agg #[.int .u64 (lim y 0), .int .u64 (lim y 1), .int .u64 (lim y 2), .int .u64 (lim y 3)])) (hd : Ret Try.prog 6 #[.agg #[.int .u64 (lim x 0), .int .u64 (lim x 1), .int .u64 (lim x 2), .int .u64 (lim x 3)], .agg #[.int .u64 (lim y 0), .int .u64 (lim y 1), .int .u64 (lim y 2), .int .u64 (lim y 3)]] (.agg #[.int .u64 (lim q 0), .int .u64 (lim q 1), .int .u64 (lim q 2), .int .u64 (lim q 3)])) (ba : Ret Try.prog 27 #[.agg #[.int .u64 (lim a 0), .int .u64 (lim a 1), .int .u64 (lim a 2), .int .u64 (lim a 3)]] (.bool false)) (bb : Ret Try.prog 27 #[.agg #[.int .u64 (lim b 0), .int .u64 (lim b 1), .int .u64 (lim b 2), .int .u64 (lim b 3)]] (.bool true)) (hm : Ret Try.prog 28 #[.agg #[.int .u64 (lim q 0), .int .u64 (lim q 1), .int .u64 (lim q 2), .int .u64 (lim q 3)]] (.agg #[.int .u64 (lim s 0), .int .u64 (lim s 1), .int .u64 (lim s 2), .int .u64 (lim s 3)])) :
    Ret Try.prog 10 #[.agg #[.int .u64 (lim a 0), .int .u64 (lim a 1), .int .u64 (lim a 2), .int .u64 (lim a 3)], .agg #[.int .u64 (lim b 0), .int .u64 (lim b 1), .int .u64 (lim b 2), .int .u64 (lim b 3)]] (.agg #[.int .u64 (lim s 0), .int .u64 (lim s 1), .int .u64 (lim s 2), .int .u64 (lim s 3)]) := by
  intro w
  have Hhx := Lib.hid hx
  have Hhy := Lib.hid hy
  have Hhd := Lib.hid hd
  have Hba := Lib.hid ba
  have Hbb := Lib.hid bb
  have Hhm := Lib.hid hm
  clear hx hy hd ba bb hm
  go_enter Try.func10, Try.ntmps10
  have LX := Has.new w 24 #[.int .u64 (lim a 0), .int .u64 (lim a 1), .int .u64 (lim a 2), .int .u64 (lim a 3)]
  have k1 := LX.cell 0 _ rfl
  have k2 := LX.cell 1 _ rfl
  have k3 := LX.cell 2 _ rfl
  have k4 := LX.cell 3 _ rfl
  have LX := LX.alloc (.cells #[.int .u64 (lim b 0), .int .u64 (lim b 1), .int .u64 (lim b 2), .int .u64 (lim b 3)] 24)
  have LN := Has.new (w.alloc (.cells #[.int .u64 (lim a 0), .int .u64 (lim a 1), .int .u64 (lim a 2), .int .u64 (lim a 3)] 24)) 24 #[.int .u64 (lim b 0), .int .u64 (lim b 1), .int .u64 (lim b 2), .int .u64 (lim b 3)]
  simp only [World.size_alloc] at LN
  have k5 := LX.cell 0 _ rfl
  have k6 := LX.cell 1 _ rfl
  have k7 := LX.cell 2 _ rfl
  have k8 := LX.cell 3 _ rfl
  have k9 := LN.cell 0 _ rfl
  have k10 := LN.cell 1 _ rfl
  have k11 := LN.cell 2 _ rfl
  have k12 := LN.cell 3 _ rfl
  have LX := LX.alloc (.cells #[.int .u64 0, .int .u64 0, .int .u64 0, .int .u64 0] 24)
  have LN := LN.alloc (.cells #[.int .u64 0, .int .u64 0, .int .u64 0, .int .u64 0] 24)
  have LR := Has.new ((w.alloc (.cells #[.int .u64 (lim a 0), .int .u64 (lim a 1), .int .u64 (lim a 2), .int .u64 (lim a 3)] 24)).alloc (.cells #[.int .u64 (lim b 0), .int .u64 (lim b 1), .int .u64 (lim b 2), .int .u64 (lim b 3)] 24)) 24 #[.int .u64 0, .int .u64 0, .int .u64 0, .int .u64 0]
  simp only [World.size_alloc] at LR
  have k13 := LX.cell 0 _ rfl
  have k14 := LX.cell 1 _ rfl
  have k15 := LX.cell 2 _ rfl
  have k16 := LX.cell 3 _ rfl
  have k17 := LN.cell 0 _ rfl
  have k18 := LN.cell 1 _ rfl
  have k19 := LN.cell 2 _ rfl
  have k20 := LN.cell 3 _ rfl
  have k21 := LR.cell 0 _ rfl
  have k22 := LR.cell 1 _ rfl
  have k23 := LR.cell 2 _ rfl
  have k24 := LR.cell 3 _ rfl
  have Q := (Below.refl w.heap.size w)
  have Q := Q.alloc Q.size (.cells #[.int .u64 (lim a 0), .int .u64 (lim a 1), .int .u64 (lim a 2), .int .u64 (lim a 3)] 24)
  have Q := Q.alloc Q.size (.cells #[.int .u64 (lim b 0), .int .u64 (lim b 1), .int .u64 (lim b 2), .int .u64 (lim b 3)] 24)
  have Q := Q.alloc Q.size (.cells #[.int .u64 0, .int .u64 0, .int .u64 0, .int .u64 0] 24)
  go_wp2_with fail
  clear k1 k2 k3 k4 k5 k6 k7 k8 k9 k10 k11 k12 k13 k14 k15 k16 k17 k18 k19 k20 k21 k22 k23 k24
  obtain ⟨W1, hW1⟩ : ∃ W1, (((w.alloc (.cells #[.int .u64 (lim a 0), .int .u64 (lim a 1), .int .u64 (lim a 2), .int .u64 (lim a 3)] 24)).alloc (.cells #[.int .u64 (lim b 0), .int .u64 (lim b 1), .int .u64 (lim b 2), .int .u64 (lim b 3)] 24)).alloc (.cells #[.int .u64 0, .int .u64 0, .int .u64 0, .int .u64 0] 24)) = W1 := ⟨_, rfl⟩
  rw [hW1] at LX LN LR Q ⊢
  clear hW1
  refine wp_region_ghost [some (.agg #[.int .u64 (lim a 0), .int .u64 (lim a 1), .int .u64 (lim a 2), .int .u64 (lim a 3)]), some (.agg #[.int .u64 (lim x 0), .int .u64 (lim x 1), .int .u64 (lim x 2), .int .u64 (lim x 3)]), some (.agg #[.int .u64 (lim b 0), .int .u64 (lim b 1), .int .u64 (lim b 2), .int .u64 (lim b 3)]), some (.agg #[.int .u64 (lim y 0), .int .u64 (lim y 1), .int .u64 (lim y 2), .int .u64 (lim y 3)]), some (.agg #[.int .u64 (lim q 0), .int .u64 (lim q 1), .int .u64 (lim q 2), .int .u64 (lim q 3)]), none, none] [[], [0], [], [0, 1, 2], [0, 1, 2, 3], [], [0, 1, 2, 3, 4, 5]] (fun f g w' => Below W1.heap.size W1 w' ∧ (f 5 = true → ∃ B, g 5 = .pointer (some ⟨B, 0, none⟩) ∧ W1.heap.size ≤ B ∧ Has w' B 24 (cellsIf (f 6) #[.int .u64 (lim q 0), .int .u64 (lim q 1), .int .u64 (lim q 2), .int .u64 (lim q 3)] #[.int .u64 0, .int .u64 0, .int .u64 0, .int .u64 0])))
    (by kernel_rfl) (by kernel_rfl) (by kernel_rfl) ?_ ?_ ?_ ?_
  · rintro f g wa wb ⟨h1, h2⟩ hb
    exact ⟨h1.trans (hb.mono h1.size), fun h => let ⟨B, e, hB, hL⟩ := h2 h; ⟨B, e, hB, hL.later hb⟩⟩
  · intro f f' g g' wa h
    have ha := h 5 rfl
    have hs := h 6 rfl
    simp only [ha.1, ha.2, hs.1]
    exact id
  · exact ⟨(Below.refl _ _).drew, by simp⟩
  rintro f g y25 ⟨h1, h2⟩ Dn
  have LX := LX.later h1
  have LN := LN.later h1
  have LR := LR.later h1
  have k26 := LX.cell 0 _ rfl
  have k27 := LX.cell 1 _ rfl
  have k28 := LX.cell 2 _ rfl
  have k29 := LX.cell 3 _ rfl
  have k30 := LN.cell 0 _ rfl
  have k31 := LN.cell 1 _ rfl
  have k32 := LN.cell 2 _ rfl
  have k33 := LN.cell 3 _ rfl
  have k34 := LR.cell 0 _ rfl
  have k35 := LR.cell 1 _ rfl
  have k36 := LR.cell 2 _ rfl
  have k37 := LR.cell 3 _ rfl
  refine GW.known _ rfl (fun hd hf => ?_) ?_
  · go_wp2
    exact ⟨rfl, rfl, Below.refl _ _⟩
  simp only [Act.put, List.setIfInBounds_toArray, List.set_cons_succ, List.set_cons_zero]
  refine GW.known _ rfl (fun hd hf => ?_) ?_
  · go_wp2_with fail
    refine (Hhx.out _).mono ?_
    rintro e u ⟨rfl, hb⟩
    go_wp2
    exact ⟨rfl, rfl, hb⟩
  simp only [Act.put, List.setIfInBounds_toArray, List.set_cons_succ, List.set_cons_zero]
  refine GW.known _ rfl (fun hd hf => ?_) ?_
  · go_wp2
    exact ⟨rfl, rfl, Below.refl _ _⟩
  simp only [Act.put, List.setIfInBounds_toArray, List.set_cons_succ, List.set_cons_zero]
  refine GW.known _ rfl (fun hd hf => ?_) ?_
  · go_wp2_with fail
    refine (Hhy.out _).mono ?_
    rintro e u ⟨rfl, hb⟩
    go_wp2
    exact ⟨rfl, rfl, hb⟩
  simp only [Act.put, List.setIfInBounds_toArray, List.set_cons_succ, List.set_cons_zero]
  refine GW.known _ rfl (fun hd hf => ?_) ?_
  · go_wp2_with fail
    refine (Hhd.out _).mono ?_
    rintro e u ⟨rfl, hb⟩
    go_wp2
    exact ⟨rfl, rfl, hb⟩
  simp only [Act.put, List.setIfInBounds_toArray, List.set_cons_succ, List.set_cons_zero]
  refine GW.open rfl (fun hd hf => ?_) ?_
  · have fs : f 6 = false := by
      cases h : f 6 with
      | false => rfl
      | true => have := Dn 6 h 5 (by decide); rw [hf] at this; cases this
    have fu : upd f 5 true 6 = false := (upd_ne f true (show (6 : Nat) ≠ 5 by decide)).trans fs
    go_wp2
    refine ⟨rfl, h1.alloc h1.size _, fun _ => ⟨_, rfl, h1.size, ?_⟩⟩
    show Has _ _ 24 (cellsIf (upd f 5 true 6) #[.int .u64 (lim q 0), .int .u64 (lim q 1), .int .u64 (lim q 2), .int .u64 (lim q 3)] #[.int .u64 0, .int .u64 0, .int .u64 0, .int .u64 0])
    rw [fu, cellsIf_false]
    exact Has.new _ _ _
  simp only [Act.put, List.setIfInBounds_toArray, List.set_cons_succ, List.set_cons_zero]
  refine GW.open rfl (fun hd hf => ?_) ?_
  · obtain ⟨B, eB, hB, LB⟩ := h2 (hd 5 (by decide))
    rw [hf, cellsIf_false] at LB
    rw [eB]
    have c0 := LB.cell 0 _ rfl
    have z0 := LB.frozen 0
    have c1 := LB.cell 1 _ rfl
    have z1 := LB.frozen 1
    have c2 := LB.cell 2 _ rfl
    have z2 := LB.frozen 2
    have c3 := LB.cell 3 _ rfl
    have z3 := LB.frozen 3
    go_wp2
    refine ⟨rfl, ((((h1.setCell (p := ⟨B, 0, none⟩) hB (.int .u64 (lim q 0))).setCell (p := ⟨B, 1, none⟩) hB (.int .u64 (lim q 1))).setCell (p := ⟨B, 2, none⟩) hB (.int .u64 (lim q 2))).setCell (p := ⟨B, 3, none⟩) hB (.int .u64 (lim q 3))), fun _ => ⟨B, eB, hB, ?_⟩⟩
    show Has _ B 24 (cellsIf (upd f 6 true 6) #[.int .u64 (lim q 0), .int .u64 (lim q 1), .int .u64 (lim q 2), .int .u64 (lim q 3)] #[.int .u64 0, .int .u64 0, .int .u64 0, .int .u64 0])
    rw [upd_self, cellsIf_true]
    exact ((((LB.set 0 (.int .u64 (lim q 0))).set 1 (.int .u64 (lim q 1))).set 2 (.int .u64 (lim q 2))).set 3 (.int .u64 (lim q 3)))
  simp only [Act.put, List.setIfInBounds_toArray, List.set_cons_succ, List.set_cons_zero]
  refine GW.nil (fun hall => ?_)
  obtain ⟨b25, eB, hB, LS⟩ := h2 (hall 5 (by omega))
  rw [hall 6 (by omega), cellsIf_true] at LS
  have Q := Q.trans (h1.mono Q.size)
  clear h2 Dn hall k26 k27 k28 k29 k30 k31 k32 k33 k34 k35 k36 k37
  rw [eB]
  clear eB hB h1
  have k38 := LX.cell 0 _ rfl
  have k39 := LX.cell 1 _ rfl
  have k40 := LX.cell 2 _ rfl
  have k41 := LX.cell 3 _ rfl
  have k42 := LN.cell 0 _ rfl
  have k43 := LN.cell 1 _ rfl
  have k44 := LN.cell 2 _ rfl
  have k45 := LN.cell 3 _ rfl
  have k46 := LR.cell 0 _ rfl
  have k47 := LR.cell 1 _ rfl
  have k48 := LR.cell 2 _ rfl
  have k49 := LR.cell 3 _ rfl
  have k50 := LS.cell 0 _ rfl
  have k51 := LS.cell 1 _ rfl
  have k52 := LS.cell 2 _ rfl
  have k53 := LS.cell 3 _ rfl
  go_wp2_with fail
  clear k38 k39 k40 k41 k42 k43 k44 k45 k46 k47 k48 k49 k50 k51 k52 k53
  have k54 : ∀ y : Ext y25, y.w.cell? ⟨w.heap.size, 0, none⟩ = some (.int .u64 (lim a 0)) := fun y => (LX.later y.below).cell 0 _ rfl
  have k55 : ∀ y : Ext y25, y.w.cell? ⟨w.heap.size, 1, none⟩ = some (.int .u64 (lim a 1)) := fun y => (LX.later y.below).cell 1 _ rfl
  have k56 : ∀ y : Ext y25, y.w.cell? ⟨w.heap.size, 2, none⟩ = some (.int .u64 (lim a 2)) := fun y => (LX.later y.below).cell 2 _ rfl
  have k57 : ∀ y : Ext y25, y.w.cell? ⟨w.heap.size, 3, none⟩ = some (.int .u64 (lim a 3)) := fun y => (LX.later y.below).cell 3 _ rfl
  have k58 : ∀ y : Ext y25, y.w.cell? ⟨w.heap.size + 1, 0, none⟩ = some (.int .u64 (lim b 0)) := fun y => (LN.later y.below).cell 0 _ rfl
  have k59 : ∀ y : Ext y25, y.w.cell? ⟨w.heap.size + 1, 1, none⟩ = some (.int .u64 (lim b 1)) := fun y => (LN.later y.below).cell 1 _ rfl
  have k60 : ∀ y : Ext y25, y.w.cell? ⟨w.heap.size + 1, 2, none⟩ = some (.int .u64 (lim b 2)) := fun y => (LN.later y.below).cell 2 _ rfl
  have k61 : ∀ y : Ext y25, y.w.cell? ⟨w.heap.size + 1, 3, none⟩ = some (.int .u64 (lim b 3)) := fun y => (LN.later y.below).cell 3 _ rfl
  have k62 : ∀ y : Ext y25, y.w.cell? ⟨w.heap.size + 1 + 1, 0, none⟩ = some (.int .u64 0) := fun y => (LR.later y.below).cell 0 _ rfl
  have k63 : ∀ y : Ext y25, y.w.cell? ⟨w.heap.size + 1 + 1, 1, none⟩ = some (.int .u64 0) := fun y => (LR.later y.below).cell 1 _ rfl
  have k64 : ∀ y : Ext y25, y.w.cell? ⟨w.heap.size + 1 + 1, 2, none⟩ = some (.int .u64 0) := fun y => (LR.later y.below).cell 2 _ rfl
  have k65 : ∀ y : Ext y25, y.w.cell? ⟨w.heap.size + 1 + 1, 3, none⟩ = some (.int .u64 0) := fun y => (LR.later y.below).cell 3 _ rfl
  have k66 : ∀ y : Ext y25, y.w.cell? ⟨b25, 0, none⟩ = some (.int .u64 (lim q 0)) := fun y => (LS.later y.below).cell 0 _ rfl
  have k67 : ∀ y : Ext y25, y.w.cell? ⟨b25, 1, none⟩ = some (.int .u64 (lim q 1)) := fun y => (LS.later y.below).cell 1 _ rfl
  have k68 : ∀ y : Ext y25, y.w.cell? ⟨b25, 2, none⟩ = some (.int .u64 (lim q 2)) := fun y => (LS.later y.below).cell 2 _ rfl
  have k69 : ∀ y : Ext y25, y.w.cell? ⟨b25, 3, none⟩ = some (.int .u64 (lim q 3)) := fun y => (LS.later y.below).cell 3 _ rfl
  refine wp_region_quick (C := Grows y25) (by kernel_rfl) (by kernel_rfl) (by kernel_rfl) (grows_refl y25) ?_
  repeat (go_big_quiet_step (first | (with_reducible exact Ret.at Hba.out _) | (with_reducible exact Ret.at Hbb.out _)))
  refine wpQuiet_nil ?_
  rintro _ ⟨x70, rfl⟩
  clear k54 k55 k56 k57 k58 k59 k60 k61 k62 k63 k64 k65 k66 k67 k68 k69
  have LX := LX.later x70.below
  have LN := LN.later x70.below
  have LR := LR.later x70.below
  have LS := LS.later x70.below
  have Q := Q.trans (x70.below.mono Q.size)
  have k71 := LX.cell 0 _ rfl
  have k72 := LX.cell 1 _ rfl
  have k73 := LX.cell 2 _ rfl
  have k74 := LX.cell 3 _ rfl
  have k75 := LN.cell 0 _ rfl
  have k76 := LN.cell 1 _ rfl
  have k77 := LN.cell 2 _ rfl
  have k78 := LN.cell 3 _ rfl
  have k79 := LR.cell 0 _ rfl
  have k80 := LR.cell 1 _ rfl
  have k81 := LR.cell 2 _ rfl
  have k82 := LR.cell 3 _ rfl
  have k83 := LS.cell 0 _ rfl
  have k84 := LS.cell 1 _ rfl
  have k85 := LS.cell 2 _ rfl
  have k86 := LS.cell 3 _ rfl
  go_wp2_with fail
  clear k71 k72 k73 k74 k75 k76 k77 k78 k79 k80 k81 k82 k83 k84 k85 k86
  refine (Hhm.out _).mono ?_
  rintro e v87 ⟨rfl, q⟩
  have LX := LX.later q
  have LN := LN.later q
  have LR := LR.later q
  have LS := LS.later q
  have Q := Q.trans (q.mono Q.size)
  clear q
  have r0 := LR.cell 0 _ rfl
  have z0 := LR.frozen 0
  have r1 := LR.cell 1 _ rfl
  have z1 := LR.frozen 1
  have r2 := LR.cell 2 _ rfl
  have z2 := LR.frozen 2
  have r3 := LR.cell 3 _ rfl
  have z3 := LR.frozen 3
  have k88 := LX.cell 0 _ rfl
  have k89 := LX.cell 1 _ rfl
  have k90 := LX.cell 2 _ rfl
  have k91 := LX.cell 3 _ rfl
  have k92 := LN.cell 0 _ rfl
  have k93 := LN.cell 1 _ rfl
  have k94 := LN.cell 2 _ rfl
  have k95 := LN.cell 3 _ rfl
  have k96 := LS.cell 0 _ rfl
  have k97 := LS.cell 1 _ rfl
  have k98 := LS.cell 2 _ rfl
  have k99 := LS.cell 3 _ rfl
  have HR := Lib.hid (((((LR.set 0 (.int .u64 (lim s 0))).set 1 (.int .u64 (lim s 1))).set 2 (.int .u64 (lim s 2))).set 3 (.int .u64 (lim s 3))))
  have HQ := Lib.hid (((((Q.setCell (p := ⟨w.heap.size + 1 + 1, 0, none⟩) (show w.heap.size ≤ _ by simp; first | done | omega) (.int .u64 (lim s 0))).setCell (p := ⟨w.heap.size + 1 + 1, 1, none⟩) (show w.heap.size ≤ _ by simp; first | done | omega) (.int .u64 (lim s 1))).setCell (p := ⟨w.heap.size + 1 + 1, 2, none⟩) (show w.heap.size ≤ _ by simp; first | done | omega) (.int .u64 (lim s 2))).setCell (p := ⟨w.heap.size + 1 + 1, 3, none⟩) (show w.heap.size ≤ _ by simp; first | done | omega) (.int .u64 (lim s 3))))
  clear Q LX LN LR LS
  go_wp2
  refine bodyPost_ret (results_word (m := lim s) rfl rfl HR.out) rfl ⟨rfl, HQ.out⟩

set_option maxRecDepth 100000 in
set_option maxHeartbeats 4000000 in
theorem refSdiv_false_false (a b x y q s : Nat) (hx : Ret Try.prog 26 #[.agg #[.int .u64 (lim a 0), .int .u64 (lim a 1), .int .u64 (lim a 2), .int .u64 (lim a 3)]] (.agg #[.int .u64 (lim x 0), .int .u64 (lim x 1), .int .u64 (lim x 2), .int .u64 (lim x 3)])) (hy : Ret Try.prog 26 #[.agg #[.int .u64 (lim b 0), .int .u64 (lim b 1), .int .u64 (lim b 2), .int .u64 (lim b 3)]] (.agg #[.int .u64 (lim y 0), .int .u64 (lim y 1), .int .u64 (lim y 2), .int .u64 (lim y 3)])) (hd : Ret Try.prog 6 #[.agg #[.int .u64 (lim x 0), .int .u64 (lim x 1), .int .u64 (lim x 2), .int .u64 (lim x 3)], .agg #[.int .u64 (lim y 0), .int .u64 (lim y 1), .int .u64 (lim y 2), .int .u64 (lim y 3)]] (.agg #[.int .u64 (lim q 0), .int .u64 (lim q 1), .int .u64 (lim q 2), .int .u64 (lim q 3)])) (ba : Ret Try.prog 27 #[.agg #[.int .u64 (lim a 0), .int .u64 (lim a 1), .int .u64 (lim a 2), .int .u64 (lim a 3)]] (.bool false)) (bb : Ret Try.prog 27 #[.agg #[.int .u64 (lim b 0), .int .u64 (lim b 1), .int .u64 (lim b 2), .int .u64 (lim b 3)]] (.bool false)) :
    Ret Try.prog 10 #[.agg #[.int .u64 (lim a 0), .int .u64 (lim a 1), .int .u64 (lim a 2), .int .u64 (lim a 3)], .agg #[.int .u64 (lim b 0), .int .u64 (lim b 1), .int .u64 (lim b 2), .int .u64 (lim b 3)]] (.agg #[.int .u64 (lim q 0), .int .u64 (lim q 1), .int .u64 (lim q 2), .int .u64 (lim q 3)]) := by
  intro w
  have Hhx := Lib.hid hx
  have Hhy := Lib.hid hy
  have Hhd := Lib.hid hd
  have Hba := Lib.hid ba
  have Hbb := Lib.hid bb
  clear hx hy hd ba bb
  go_enter Try.func10, Try.ntmps10
  have LX := Has.new w 24 #[.int .u64 (lim a 0), .int .u64 (lim a 1), .int .u64 (lim a 2), .int .u64 (lim a 3)]
  have k1 := LX.cell 0 _ rfl
  have k2 := LX.cell 1 _ rfl
  have k3 := LX.cell 2 _ rfl
  have k4 := LX.cell 3 _ rfl
  have LX := LX.alloc (.cells #[.int .u64 (lim b 0), .int .u64 (lim b 1), .int .u64 (lim b 2), .int .u64 (lim b 3)] 24)
  have LN := Has.new (w.alloc (.cells #[.int .u64 (lim a 0), .int .u64 (lim a 1), .int .u64 (lim a 2), .int .u64 (lim a 3)] 24)) 24 #[.int .u64 (lim b 0), .int .u64 (lim b 1), .int .u64 (lim b 2), .int .u64 (lim b 3)]
  simp only [World.size_alloc] at LN
  have k5 := LX.cell 0 _ rfl
  have k6 := LX.cell 1 _ rfl
  have k7 := LX.cell 2 _ rfl
  have k8 := LX.cell 3 _ rfl
  have k9 := LN.cell 0 _ rfl
  have k10 := LN.cell 1 _ rfl
  have k11 := LN.cell 2 _ rfl
  have k12 := LN.cell 3 _ rfl
  have LX := LX.alloc (.cells #[.int .u64 0, .int .u64 0, .int .u64 0, .int .u64 0] 24)
  have LN := LN.alloc (.cells #[.int .u64 0, .int .u64 0, .int .u64 0, .int .u64 0] 24)
  have LR := Has.new ((w.alloc (.cells #[.int .u64 (lim a 0), .int .u64 (lim a 1), .int .u64 (lim a 2), .int .u64 (lim a 3)] 24)).alloc (.cells #[.int .u64 (lim b 0), .int .u64 (lim b 1), .int .u64 (lim b 2), .int .u64 (lim b 3)] 24)) 24 #[.int .u64 0, .int .u64 0, .int .u64 0, .int .u64 0]
  simp only [World.size_alloc] at LR
  have k13 := LX.cell 0 _ rfl
  have k14 := LX.cell 1 _ rfl
  have k15 := LX.cell 2 _ rfl
  have k16 := LX.cell 3 _ rfl
  have k17 := LN.cell 0 _ rfl
  have k18 := LN.cell 1 _ rfl
  have k19 := LN.cell 2 _ rfl
  have k20 := LN.cell 3 _ rfl
  have k21 := LR.cell 0 _ rfl
  have k22 := LR.cell 1 _ rfl
  have k23 := LR.cell 2 _ rfl
  have k24 := LR.cell 3 _ rfl
  have Q := (Below.refl w.heap.size w)
  have Q := Q.alloc Q.size (.cells #[.int .u64 (lim a 0), .int .u64 (lim a 1), .int .u64 (lim a 2), .int .u64 (lim a 3)] 24)
  have Q := Q.alloc Q.size (.cells #[.int .u64 (lim b 0), .int .u64 (lim b 1), .int .u64 (lim b 2), .int .u64 (lim b 3)] 24)
  have Q := Q.alloc Q.size (.cells #[.int .u64 0, .int .u64 0, .int .u64 0, .int .u64 0] 24)
  go_wp2_with fail
  clear k1 k2 k3 k4 k5 k6 k7 k8 k9 k10 k11 k12 k13 k14 k15 k16 k17 k18 k19 k20 k21 k22 k23 k24
  obtain ⟨W1, hW1⟩ : ∃ W1, (((w.alloc (.cells #[.int .u64 (lim a 0), .int .u64 (lim a 1), .int .u64 (lim a 2), .int .u64 (lim a 3)] 24)).alloc (.cells #[.int .u64 (lim b 0), .int .u64 (lim b 1), .int .u64 (lim b 2), .int .u64 (lim b 3)] 24)).alloc (.cells #[.int .u64 0, .int .u64 0, .int .u64 0, .int .u64 0] 24)) = W1 := ⟨_, rfl⟩
  rw [hW1] at LX LN LR Q ⊢
  clear hW1
  refine wp_region_ghost [some (.agg #[.int .u64 (lim a 0), .int .u64 (lim a 1), .int .u64 (lim a 2), .int .u64 (lim a 3)]), some (.agg #[.int .u64 (lim x 0), .int .u64 (lim x 1), .int .u64 (lim x 2), .int .u64 (lim x 3)]), some (.agg #[.int .u64 (lim b 0), .int .u64 (lim b 1), .int .u64 (lim b 2), .int .u64 (lim b 3)]), some (.agg #[.int .u64 (lim y 0), .int .u64 (lim y 1), .int .u64 (lim y 2), .int .u64 (lim y 3)]), some (.agg #[.int .u64 (lim q 0), .int .u64 (lim q 1), .int .u64 (lim q 2), .int .u64 (lim q 3)]), none, none] [[], [0], [], [0, 1, 2], [0, 1, 2, 3], [], [0, 1, 2, 3, 4, 5]] (fun f g w' => Below W1.heap.size W1 w' ∧ (f 5 = true → ∃ B, g 5 = .pointer (some ⟨B, 0, none⟩) ∧ W1.heap.size ≤ B ∧ Has w' B 24 (cellsIf (f 6) #[.int .u64 (lim q 0), .int .u64 (lim q 1), .int .u64 (lim q 2), .int .u64 (lim q 3)] #[.int .u64 0, .int .u64 0, .int .u64 0, .int .u64 0])))
    (by kernel_rfl) (by kernel_rfl) (by kernel_rfl) ?_ ?_ ?_ ?_
  · rintro f g wa wb ⟨h1, h2⟩ hb
    exact ⟨h1.trans (hb.mono h1.size), fun h => let ⟨B, e, hB, hL⟩ := h2 h; ⟨B, e, hB, hL.later hb⟩⟩
  · intro f f' g g' wa h
    have ha := h 5 rfl
    have hs := h 6 rfl
    simp only [ha.1, ha.2, hs.1]
    exact id
  · exact ⟨(Below.refl _ _).drew, by simp⟩
  rintro f g y25 ⟨h1, h2⟩ Dn
  have LX := LX.later h1
  have LN := LN.later h1
  have LR := LR.later h1
  have k26 := LX.cell 0 _ rfl
  have k27 := LX.cell 1 _ rfl
  have k28 := LX.cell 2 _ rfl
  have k29 := LX.cell 3 _ rfl
  have k30 := LN.cell 0 _ rfl
  have k31 := LN.cell 1 _ rfl
  have k32 := LN.cell 2 _ rfl
  have k33 := LN.cell 3 _ rfl
  have k34 := LR.cell 0 _ rfl
  have k35 := LR.cell 1 _ rfl
  have k36 := LR.cell 2 _ rfl
  have k37 := LR.cell 3 _ rfl
  refine GW.known _ rfl (fun hd hf => ?_) ?_
  · go_wp2
    exact ⟨rfl, rfl, Below.refl _ _⟩
  simp only [Act.put, List.setIfInBounds_toArray, List.set_cons_succ, List.set_cons_zero]
  refine GW.known _ rfl (fun hd hf => ?_) ?_
  · go_wp2_with fail
    refine (Hhx.out _).mono ?_
    rintro e u ⟨rfl, hb⟩
    go_wp2
    exact ⟨rfl, rfl, hb⟩
  simp only [Act.put, List.setIfInBounds_toArray, List.set_cons_succ, List.set_cons_zero]
  refine GW.known _ rfl (fun hd hf => ?_) ?_
  · go_wp2
    exact ⟨rfl, rfl, Below.refl _ _⟩
  simp only [Act.put, List.setIfInBounds_toArray, List.set_cons_succ, List.set_cons_zero]
  refine GW.known _ rfl (fun hd hf => ?_) ?_
  · go_wp2_with fail
    refine (Hhy.out _).mono ?_
    rintro e u ⟨rfl, hb⟩
    go_wp2
    exact ⟨rfl, rfl, hb⟩
  simp only [Act.put, List.setIfInBounds_toArray, List.set_cons_succ, List.set_cons_zero]
  refine GW.known _ rfl (fun hd hf => ?_) ?_
  · go_wp2_with fail
    refine (Hhd.out _).mono ?_
    rintro e u ⟨rfl, hb⟩
    go_wp2
    exact ⟨rfl, rfl, hb⟩
  simp only [Act.put, List.setIfInBounds_toArray, List.set_cons_succ, List.set_cons_zero]
  refine GW.open rfl (fun hd hf => ?_) ?_
  · have fs : f 6 = false := by
      cases h : f 6 with
      | false => rfl
      | true => have := Dn 6 h 5 (by decide); rw [hf] at this; cases this
    have fu : upd f 5 true 6 = false := (upd_ne f true (show (6 : Nat) ≠ 5 by decide)).trans fs
    go_wp2
    refine ⟨rfl, h1.alloc h1.size _, fun _ => ⟨_, rfl, h1.size, ?_⟩⟩
    show Has _ _ 24 (cellsIf (upd f 5 true 6) #[.int .u64 (lim q 0), .int .u64 (lim q 1), .int .u64 (lim q 2), .int .u64 (lim q 3)] #[.int .u64 0, .int .u64 0, .int .u64 0, .int .u64 0])
    rw [fu, cellsIf_false]
    exact Has.new _ _ _
  simp only [Act.put, List.setIfInBounds_toArray, List.set_cons_succ, List.set_cons_zero]
  refine GW.open rfl (fun hd hf => ?_) ?_
  · obtain ⟨B, eB, hB, LB⟩ := h2 (hd 5 (by decide))
    rw [hf, cellsIf_false] at LB
    rw [eB]
    have c0 := LB.cell 0 _ rfl
    have z0 := LB.frozen 0
    have c1 := LB.cell 1 _ rfl
    have z1 := LB.frozen 1
    have c2 := LB.cell 2 _ rfl
    have z2 := LB.frozen 2
    have c3 := LB.cell 3 _ rfl
    have z3 := LB.frozen 3
    go_wp2
    refine ⟨rfl, ((((h1.setCell (p := ⟨B, 0, none⟩) hB (.int .u64 (lim q 0))).setCell (p := ⟨B, 1, none⟩) hB (.int .u64 (lim q 1))).setCell (p := ⟨B, 2, none⟩) hB (.int .u64 (lim q 2))).setCell (p := ⟨B, 3, none⟩) hB (.int .u64 (lim q 3))), fun _ => ⟨B, eB, hB, ?_⟩⟩
    show Has _ B 24 (cellsIf (upd f 6 true 6) #[.int .u64 (lim q 0), .int .u64 (lim q 1), .int .u64 (lim q 2), .int .u64 (lim q 3)] #[.int .u64 0, .int .u64 0, .int .u64 0, .int .u64 0])
    rw [upd_self, cellsIf_true]
    exact ((((LB.set 0 (.int .u64 (lim q 0))).set 1 (.int .u64 (lim q 1))).set 2 (.int .u64 (lim q 2))).set 3 (.int .u64 (lim q 3)))
  simp only [Act.put, List.setIfInBounds_toArray, List.set_cons_succ, List.set_cons_zero]
  refine GW.nil (fun hall => ?_)
  obtain ⟨b25, eB, hB, LS⟩ := h2 (hall 5 (by omega))
  rw [hall 6 (by omega), cellsIf_true] at LS
  have Q := Q.trans (h1.mono Q.size)
  clear h2 Dn hall k26 k27 k28 k29 k30 k31 k32 k33 k34 k35 k36 k37
  rw [eB]
  clear eB hB h1
  have k38 := LX.cell 0 _ rfl
  have k39 := LX.cell 1 _ rfl
  have k40 := LX.cell 2 _ rfl
  have k41 := LX.cell 3 _ rfl
  have k42 := LN.cell 0 _ rfl
  have k43 := LN.cell 1 _ rfl
  have k44 := LN.cell 2 _ rfl
  have k45 := LN.cell 3 _ rfl
  have k46 := LR.cell 0 _ rfl
  have k47 := LR.cell 1 _ rfl
  have k48 := LR.cell 2 _ rfl
  have k49 := LR.cell 3 _ rfl
  have k50 := LS.cell 0 _ rfl
  have k51 := LS.cell 1 _ rfl
  have k52 := LS.cell 2 _ rfl
  have k53 := LS.cell 3 _ rfl
  go_wp2_with fail
  clear k38 k39 k40 k41 k42 k43 k44 k45 k46 k47 k48 k49 k50 k51 k52 k53
  have k54 : ∀ y : Ext y25, y.w.cell? ⟨w.heap.size, 0, none⟩ = some (.int .u64 (lim a 0)) := fun y => (LX.later y.below).cell 0 _ rfl
  have k55 : ∀ y : Ext y25, y.w.cell? ⟨w.heap.size, 1, none⟩ = some (.int .u64 (lim a 1)) := fun y => (LX.later y.below).cell 1 _ rfl
  have k56 : ∀ y : Ext y25, y.w.cell? ⟨w.heap.size, 2, none⟩ = some (.int .u64 (lim a 2)) := fun y => (LX.later y.below).cell 2 _ rfl
  have k57 : ∀ y : Ext y25, y.w.cell? ⟨w.heap.size, 3, none⟩ = some (.int .u64 (lim a 3)) := fun y => (LX.later y.below).cell 3 _ rfl
  have k58 : ∀ y : Ext y25, y.w.cell? ⟨w.heap.size + 1, 0, none⟩ = some (.int .u64 (lim b 0)) := fun y => (LN.later y.below).cell 0 _ rfl
  have k59 : ∀ y : Ext y25, y.w.cell? ⟨w.heap.size + 1, 1, none⟩ = some (.int .u64 (lim b 1)) := fun y => (LN.later y.below).cell 1 _ rfl
  have k60 : ∀ y : Ext y25, y.w.cell? ⟨w.heap.size + 1, 2, none⟩ = some (.int .u64 (lim b 2)) := fun y => (LN.later y.below).cell 2 _ rfl
  have k61 : ∀ y : Ext y25, y.w.cell? ⟨w.heap.size + 1, 3, none⟩ = some (.int .u64 (lim b 3)) := fun y => (LN.later y.below).cell 3 _ rfl
  have k62 : ∀ y : Ext y25, y.w.cell? ⟨w.heap.size + 1 + 1, 0, none⟩ = some (.int .u64 0) := fun y => (LR.later y.below).cell 0 _ rfl
  have k63 : ∀ y : Ext y25, y.w.cell? ⟨w.heap.size + 1 + 1, 1, none⟩ = some (.int .u64 0) := fun y => (LR.later y.below).cell 1 _ rfl
  have k64 : ∀ y : Ext y25, y.w.cell? ⟨w.heap.size + 1 + 1, 2, none⟩ = some (.int .u64 0) := fun y => (LR.later y.below).cell 2 _ rfl
  have k65 : ∀ y : Ext y25, y.w.cell? ⟨w.heap.size + 1 + 1, 3, none⟩ = some (.int .u64 0) := fun y => (LR.later y.below).cell 3 _ rfl
  have k66 : ∀ y : Ext y25, y.w.cell? ⟨b25, 0, none⟩ = some (.int .u64 (lim q 0)) := fun y => (LS.later y.below).cell 0 _ rfl
  have k67 : ∀ y : Ext y25, y.w.cell? ⟨b25, 1, none⟩ = some (.int .u64 (lim q 1)) := fun y => (LS.later y.below).cell 1 _ rfl
  have k68 : ∀ y : Ext y25, y.w.cell? ⟨b25, 2, none⟩ = some (.int .u64 (lim q 2)) := fun y => (LS.later y.below).cell 2 _ rfl
  have k69 : ∀ y : Ext y25, y.w.cell? ⟨b25, 3, none⟩ = some (.int .u64 (lim q 3)) := fun y => (LS.later y.below).cell 3 _ rfl
  refine wp_region_quick (C := Grows y25) (by kernel_rfl) (by kernel_rfl) (by kernel_rfl) (grows_refl y25) ?_
  repeat (go_big_quiet_step (first | (with_reducible exact Ret.at Hba.out _) | (with_reducible exact Ret.at Hbb.out _)))
  refine wpQuiet_nil ?_
  rintro _ ⟨x70, rfl⟩
  clear k54 k55 k56 k57 k58 k59 k60 k61 k62 k63 k64 k65 k66 k67 k68 k69
  have LX := LX.later x70.below
  have LN := LN.later x70.below
  have LR := LR.later x70.below
  have LS := LS.later x70.below
  have Q := Q.trans (x70.below.mono Q.size)
  have r0 := LR.cell 0 _ rfl
  have z0 := LR.frozen 0
  have r1 := LR.cell 1 _ rfl
  have z1 := LR.frozen 1
  have r2 := LR.cell 2 _ rfl
  have z2 := LR.frozen 2
  have r3 := LR.cell 3 _ rfl
  have z3 := LR.frozen 3
  have k71 := LX.cell 0 _ rfl
  have k72 := LX.cell 1 _ rfl
  have k73 := LX.cell 2 _ rfl
  have k74 := LX.cell 3 _ rfl
  have k75 := LN.cell 0 _ rfl
  have k76 := LN.cell 1 _ rfl
  have k77 := LN.cell 2 _ rfl
  have k78 := LN.cell 3 _ rfl
  have k79 := LS.cell 0 _ rfl
  have k80 := LS.cell 1 _ rfl
  have k81 := LS.cell 2 _ rfl
  have k82 := LS.cell 3 _ rfl
  have HR := Lib.hid (((((LR.set 0 (.int .u64 (lim q 0))).set 1 (.int .u64 (lim q 1))).set 2 (.int .u64 (lim q 2))).set 3 (.int .u64 (lim q 3))))
  have HQ := Lib.hid (((((Q.setCell (p := ⟨w.heap.size + 1 + 1, 0, none⟩) (show w.heap.size ≤ _ by simp; first | done | omega) (.int .u64 (lim q 0))).setCell (p := ⟨w.heap.size + 1 + 1, 1, none⟩) (show w.heap.size ≤ _ by simp; first | done | omega) (.int .u64 (lim q 1))).setCell (p := ⟨w.heap.size + 1 + 1, 2, none⟩) (show w.heap.size ≤ _ by simp; first | done | omega) (.int .u64 (lim q 2))).setCell (p := ⟨w.heap.size + 1 + 1, 3, none⟩) (show w.heap.size ≤ _ by simp; first | done | omega) (.int .u64 (lim q 3))))
  clear Q LX LN LR LS
  go_wp2
  refine bodyPost_ret (results_word (m := lim q) rfl rfl HR.out) rfl ⟨rfl, HQ.out⟩

set_option maxRecDepth 100000 in
set_option maxHeartbeats 4000000 in
theorem refSmod_true (a b x y q s : Nat) (hx : Ret Try.prog 26 #[.agg #[.int .u64 (lim a 0), .int .u64 (lim a 1), .int .u64 (lim a 2), .int .u64 (lim a 3)]] (.agg #[.int .u64 (lim x 0), .int .u64 (lim x 1), .int .u64 (lim x 2), .int .u64 (lim x 3)])) (hy : Ret Try.prog 26 #[.agg #[.int .u64 (lim b 0), .int .u64 (lim b 1), .int .u64 (lim b 2), .int .u64 (lim b 3)]] (.agg #[.int .u64 (lim y 0), .int .u64 (lim y 1), .int .u64 (lim y 2), .int .u64 (lim y 3)])) (hd : Ret Try.prog 8 #[.agg #[.int .u64 (lim x 0), .int .u64 (lim x 1), .int .u64 (lim x 2), .int .u64 (lim x 3)], .agg #[.int .u64 (lim y 0), .int .u64 (lim y 1), .int .u64 (lim y 2), .int .u64 (lim y 3)]] (.agg #[.int .u64 (lim q 0), .int .u64 (lim q 1), .int .u64 (lim q 2), .int .u64 (lim q 3)])) (ba : Ret Try.prog 27 #[.agg #[.int .u64 (lim a 0), .int .u64 (lim a 1), .int .u64 (lim a 2), .int .u64 (lim a 3)]] (.bool true)) (hm : Ret Try.prog 28 #[.agg #[.int .u64 (lim q 0), .int .u64 (lim q 1), .int .u64 (lim q 2), .int .u64 (lim q 3)]] (.agg #[.int .u64 (lim s 0), .int .u64 (lim s 1), .int .u64 (lim s 2), .int .u64 (lim s 3)])) :
    Ret Try.prog 12 #[.agg #[.int .u64 (lim a 0), .int .u64 (lim a 1), .int .u64 (lim a 2), .int .u64 (lim a 3)], .agg #[.int .u64 (lim b 0), .int .u64 (lim b 1), .int .u64 (lim b 2), .int .u64 (lim b 3)]] (.agg #[.int .u64 (lim s 0), .int .u64 (lim s 1), .int .u64 (lim s 2), .int .u64 (lim s 3)]) := by
  intro w
  have Hhx := Lib.hid hx
  have Hhy := Lib.hid hy
  have Hhd := Lib.hid hd
  have Hba := Lib.hid ba
  have Hhm := Lib.hid hm
  clear hx hy hd ba hm
  go_enter Try.func12, Try.ntmps12
  have LX := Has.new w 24 #[.int .u64 (lim a 0), .int .u64 (lim a 1), .int .u64 (lim a 2), .int .u64 (lim a 3)]
  have k1 := LX.cell 0 _ rfl
  have k2 := LX.cell 1 _ rfl
  have k3 := LX.cell 2 _ rfl
  have k4 := LX.cell 3 _ rfl
  have LX := LX.alloc (.cells #[.int .u64 (lim b 0), .int .u64 (lim b 1), .int .u64 (lim b 2), .int .u64 (lim b 3)] 24)
  have LN := Has.new (w.alloc (.cells #[.int .u64 (lim a 0), .int .u64 (lim a 1), .int .u64 (lim a 2), .int .u64 (lim a 3)] 24)) 24 #[.int .u64 (lim b 0), .int .u64 (lim b 1), .int .u64 (lim b 2), .int .u64 (lim b 3)]
  simp only [World.size_alloc] at LN
  have k5 := LX.cell 0 _ rfl
  have k6 := LX.cell 1 _ rfl
  have k7 := LX.cell 2 _ rfl
  have k8 := LX.cell 3 _ rfl
  have k9 := LN.cell 0 _ rfl
  have k10 := LN.cell 1 _ rfl
  have k11 := LN.cell 2 _ rfl
  have k12 := LN.cell 3 _ rfl
  have LX := LX.alloc (.cells #[.int .u64 0, .int .u64 0, .int .u64 0, .int .u64 0] 24)
  have LN := LN.alloc (.cells #[.int .u64 0, .int .u64 0, .int .u64 0, .int .u64 0] 24)
  have LR := Has.new ((w.alloc (.cells #[.int .u64 (lim a 0), .int .u64 (lim a 1), .int .u64 (lim a 2), .int .u64 (lim a 3)] 24)).alloc (.cells #[.int .u64 (lim b 0), .int .u64 (lim b 1), .int .u64 (lim b 2), .int .u64 (lim b 3)] 24)) 24 #[.int .u64 0, .int .u64 0, .int .u64 0, .int .u64 0]
  simp only [World.size_alloc] at LR
  have k13 := LX.cell 0 _ rfl
  have k14 := LX.cell 1 _ rfl
  have k15 := LX.cell 2 _ rfl
  have k16 := LX.cell 3 _ rfl
  have k17 := LN.cell 0 _ rfl
  have k18 := LN.cell 1 _ rfl
  have k19 := LN.cell 2 _ rfl
  have k20 := LN.cell 3 _ rfl
  have k21 := LR.cell 0 _ rfl
  have k22 := LR.cell 1 _ rfl
  have k23 := LR.cell 2 _ rfl
  have k24 := LR.cell 3 _ rfl
  have Q := (Below.refl w.heap.size w)
  have Q := Q.alloc Q.size (.cells #[.int .u64 (lim a 0), .int .u64 (lim a 1), .int .u64 (lim a 2), .int .u64 (lim a 3)] 24)
  have Q := Q.alloc Q.size (.cells #[.int .u64 (lim b 0), .int .u64 (lim b 1), .int .u64 (lim b 2), .int .u64 (lim b 3)] 24)
  have Q := Q.alloc Q.size (.cells #[.int .u64 0, .int .u64 0, .int .u64 0, .int .u64 0] 24)
  go_wp2_with fail
  clear k1 k2 k3 k4 k5 k6 k7 k8 k9 k10 k11 k12 k13 k14 k15 k16 k17 k18 k19 k20 k21 k22 k23 k24
  obtain ⟨W1, hW1⟩ : ∃ W1, (((w.alloc (.cells #[.int .u64 (lim a 0), .int .u64 (lim a 1), .int .u64 (lim a 2), .int .u64 (lim a 3)] 24)).alloc (.cells #[.int .u64 (lim b 0), .int .u64 (lim b 1), .int .u64 (lim b 2), .int .u64 (lim b 3)] 24)).alloc (.cells #[.int .u64 0, .int .u64 0, .int .u64 0, .int .u64 0] 24)) = W1 := ⟨_, rfl⟩
  rw [hW1] at LX LN LR Q ⊢
  clear hW1
  refine wp_region_ghost [some (.agg #[.int .u64 (lim a 0), .int .u64 (lim a 1), .int .u64 (lim a 2), .int .u64 (lim a 3)]), some (.agg #[.int .u64 (lim x 0), .int .u64 (lim x 1), .int .u64 (lim x 2), .int .u64 (lim x 3)]), some (.agg #[.int .u64 (lim b 0), .int .u64 (lim b 1), .int .u64 (lim b 2), .int .u64 (lim b 3)]), some (.agg #[.int .u64 (lim y 0), .int .u64 (lim y 1), .int .u64 (lim y 2), .int .u64 (lim y 3)]), some (.agg #[.int .u64 (lim q 0), .int .u64 (lim q 1), .int .u64 (lim q 2), .int .u64 (lim q 3)]), none, none] [[], [0], [], [0, 1, 2], [0, 1, 2, 3], [], [0, 1, 2, 3, 4, 5]] (fun f g w' => Below W1.heap.size W1 w' ∧ (f 5 = true → ∃ B, g 5 = .pointer (some ⟨B, 0, none⟩) ∧ W1.heap.size ≤ B ∧ Has w' B 24 (cellsIf (f 6) #[.int .u64 (lim q 0), .int .u64 (lim q 1), .int .u64 (lim q 2), .int .u64 (lim q 3)] #[.int .u64 0, .int .u64 0, .int .u64 0, .int .u64 0])))
    (by kernel_rfl) (by kernel_rfl) (by kernel_rfl) ?_ ?_ ?_ ?_
  · rintro f g wa wb ⟨h1, h2⟩ hb
    exact ⟨h1.trans (hb.mono h1.size), fun h => let ⟨B, e, hB, hL⟩ := h2 h; ⟨B, e, hB, hL.later hb⟩⟩
  · intro f f' g g' wa h
    have ha := h 5 rfl
    have hs := h 6 rfl
    simp only [ha.1, ha.2, hs.1]
    exact id
  · exact ⟨(Below.refl _ _).drew, by simp⟩
  rintro f g y25 ⟨h1, h2⟩ Dn
  have LX := LX.later h1
  have LN := LN.later h1
  have LR := LR.later h1
  have k26 := LX.cell 0 _ rfl
  have k27 := LX.cell 1 _ rfl
  have k28 := LX.cell 2 _ rfl
  have k29 := LX.cell 3 _ rfl
  have k30 := LN.cell 0 _ rfl
  have k31 := LN.cell 1 _ rfl
  have k32 := LN.cell 2 _ rfl
  have k33 := LN.cell 3 _ rfl
  have k34 := LR.cell 0 _ rfl
  have k35 := LR.cell 1 _ rfl
  have k36 := LR.cell 2 _ rfl
  have k37 := LR.cell 3 _ rfl
  refine GW.known _ rfl (fun hd hf => ?_) ?_
  · go_wp2
    exact ⟨rfl, rfl, Below.refl _ _⟩
  simp only [Act.put, List.setIfInBounds_toArray, List.set_cons_succ, List.set_cons_zero]
  refine GW.known _ rfl (fun hd hf => ?_) ?_
  · go_wp2_with fail
    refine (Hhx.out _).mono ?_
    rintro e u ⟨rfl, hb⟩
    go_wp2
    exact ⟨rfl, rfl, hb⟩
  simp only [Act.put, List.setIfInBounds_toArray, List.set_cons_succ, List.set_cons_zero]
  refine GW.known _ rfl (fun hd hf => ?_) ?_
  · go_wp2
    exact ⟨rfl, rfl, Below.refl _ _⟩
  simp only [Act.put, List.setIfInBounds_toArray, List.set_cons_succ, List.set_cons_zero]
  refine GW.known _ rfl (fun hd hf => ?_) ?_
  · go_wp2_with fail
    refine (Hhy.out _).mono ?_
    rintro e u ⟨rfl, hb⟩
    go_wp2
    exact ⟨rfl, rfl, hb⟩
  simp only [Act.put, List.setIfInBounds_toArray, List.set_cons_succ, List.set_cons_zero]
  refine GW.known _ rfl (fun hd hf => ?_) ?_
  · go_wp2_with fail
    refine (Hhd.out _).mono ?_
    rintro e u ⟨rfl, hb⟩
    go_wp2
    exact ⟨rfl, rfl, hb⟩
  simp only [Act.put, List.setIfInBounds_toArray, List.set_cons_succ, List.set_cons_zero]
  refine GW.open rfl (fun hd hf => ?_) ?_
  · have fs : f 6 = false := by
      cases h : f 6 with
      | false => rfl
      | true => have := Dn 6 h 5 (by decide); rw [hf] at this; cases this
    have fu : upd f 5 true 6 = false := (upd_ne f true (show (6 : Nat) ≠ 5 by decide)).trans fs
    go_wp2
    refine ⟨rfl, h1.alloc h1.size _, fun _ => ⟨_, rfl, h1.size, ?_⟩⟩
    show Has _ _ 24 (cellsIf (upd f 5 true 6) #[.int .u64 (lim q 0), .int .u64 (lim q 1), .int .u64 (lim q 2), .int .u64 (lim q 3)] #[.int .u64 0, .int .u64 0, .int .u64 0, .int .u64 0])
    rw [fu, cellsIf_false]
    exact Has.new _ _ _
  simp only [Act.put, List.setIfInBounds_toArray, List.set_cons_succ, List.set_cons_zero]
  refine GW.open rfl (fun hd hf => ?_) ?_
  · obtain ⟨B, eB, hB, LB⟩ := h2 (hd 5 (by decide))
    rw [hf, cellsIf_false] at LB
    rw [eB]
    have c0 := LB.cell 0 _ rfl
    have z0 := LB.frozen 0
    have c1 := LB.cell 1 _ rfl
    have z1 := LB.frozen 1
    have c2 := LB.cell 2 _ rfl
    have z2 := LB.frozen 2
    have c3 := LB.cell 3 _ rfl
    have z3 := LB.frozen 3
    go_wp2
    refine ⟨rfl, ((((h1.setCell (p := ⟨B, 0, none⟩) hB (.int .u64 (lim q 0))).setCell (p := ⟨B, 1, none⟩) hB (.int .u64 (lim q 1))).setCell (p := ⟨B, 2, none⟩) hB (.int .u64 (lim q 2))).setCell (p := ⟨B, 3, none⟩) hB (.int .u64 (lim q 3))), fun _ => ⟨B, eB, hB, ?_⟩⟩
    show Has _ B 24 (cellsIf (upd f 6 true 6) #[.int .u64 (lim q 0), .int .u64 (lim q 1), .int .u64 (lim q 2), .int .u64 (lim q 3)] #[.int .u64 0, .int .u64 0, .int .u64 0, .int .u64 0])
    rw [upd_self, cellsIf_true]
    exact ((((LB.set 0 (.int .u64 (lim q 0))).set 1 (.int .u64 (lim q 1))).set 2 (.int .u64 (lim q 2))).set 3 (.int .u64 (lim q 3)))
  simp only [Act.put, List.setIfInBounds_toArray, List.set_cons_succ, List.set_cons_zero]
  refine GW.nil (fun hall => ?_)
  obtain ⟨b25, eB, hB, LS⟩ := h2 (hall 5 (by omega))
  rw [hall 6 (by omega), cellsIf_true] at LS
  have Q := Q.trans (h1.mono Q.size)
  clear h2 Dn hall k26 k27 k28 k29 k30 k31 k32 k33 k34 k35 k36 k37
  rw [eB]
  clear eB hB h1
  have k38 := LX.cell 0 _ rfl
  have k39 := LX.cell 1 _ rfl
  have k40 := LX.cell 2 _ rfl
  have k41 := LX.cell 3 _ rfl
  have k42 := LN.cell 0 _ rfl
  have k43 := LN.cell 1 _ rfl
  have k44 := LN.cell 2 _ rfl
  have k45 := LN.cell 3 _ rfl
  have k46 := LR.cell 0 _ rfl
  have k47 := LR.cell 1 _ rfl
  have k48 := LR.cell 2 _ rfl
  have k49 := LR.cell 3 _ rfl
  have k50 := LS.cell 0 _ rfl
  have k51 := LS.cell 1 _ rfl
  have k52 := LS.cell 2 _ rfl
  have k53 := LS.cell 3 _ rfl
  go_wp2_with fail
  clear k38 k39 k40 k41 k42 k43 k44 k45 k46 k47 k48 k49 k50 k51 k52 k53
  refine (Hba.out _).mono ?_
  rintro e v54 ⟨rfl, q⟩
  have LX := LX.later q
  have LN := LN.later q
  have LR := LR.later q
  have LS := LS.later q
  have Q := Q.trans (q.mono Q.size)
  clear q
  have k55 := LX.cell 0 _ rfl
  have k56 := LX.cell 1 _ rfl
  have k57 := LX.cell 2 _ rfl
  have k58 := LX.cell 3 _ rfl
  have k59 := LN.cell 0 _ rfl
  have k60 := LN.cell 1 _ rfl
  have k61 := LN.cell 2 _ rfl
  have k62 := LN.cell 3 _ rfl
  have k63 := LR.cell 0 _ rfl
  have k64 := LR.cell 1 _ rfl
  have k65 := LR.cell 2 _ rfl
  have k66 := LR.cell 3 _ rfl
  have k67 := LS.cell 0 _ rfl
  have k68 := LS.cell 1 _ rfl
  have k69 := LS.cell 2 _ rfl
  have k70 := LS.cell 3 _ rfl
  go_wp2_with fail
  clear k55 k56 k57 k58 k59 k60 k61 k62 k63 k64 k65 k66 k67 k68 k69 k70
  refine (Hhm.out _).mono ?_
  rintro e v71 ⟨rfl, q⟩
  have LX := LX.later q
  have LN := LN.later q
  have LR := LR.later q
  have LS := LS.later q
  have Q := Q.trans (q.mono Q.size)
  clear q
  have r0 := LR.cell 0 _ rfl
  have z0 := LR.frozen 0
  have r1 := LR.cell 1 _ rfl
  have z1 := LR.frozen 1
  have r2 := LR.cell 2 _ rfl
  have z2 := LR.frozen 2
  have r3 := LR.cell 3 _ rfl
  have z3 := LR.frozen 3
  have k72 := LX.cell 0 _ rfl
  have k73 := LX.cell 1 _ rfl
  have k74 := LX.cell 2 _ rfl
  have k75 := LX.cell 3 _ rfl
  have k76 := LN.cell 0 _ rfl
  have k77 := LN.cell 1 _ rfl
  have k78 := LN.cell 2 _ rfl
  have k79 := LN.cell 3 _ rfl
  have k80 := LS.cell 0 _ rfl
  have k81 := LS.cell 1 _ rfl
  have k82 := LS.cell 2 _ rfl
  have k83 := LS.cell 3 _ rfl
  have HR := Lib.hid (((((LR.set 0 (.int .u64 (lim s 0))).set 1 (.int .u64 (lim s 1))).set 2 (.int .u64 (lim s 2))).set 3 (.int .u64 (lim s 3))))
  have HQ := Lib.hid (((((Q.setCell (p := ⟨w.heap.size + 1 + 1, 0, none⟩) (show w.heap.size ≤ _ by simp; first | done | omega) (.int .u64 (lim s 0))).setCell (p := ⟨w.heap.size + 1 + 1, 1, none⟩) (show w.heap.size ≤ _ by simp; first | done | omega) (.int .u64 (lim s 1))).setCell (p := ⟨w.heap.size + 1 + 1, 2, none⟩) (show w.heap.size ≤ _ by simp; first | done | omega) (.int .u64 (lim s 2))).setCell (p := ⟨w.heap.size + 1 + 1, 3, none⟩) (show w.heap.size ≤ _ by simp; first | done | omega) (.int .u64 (lim s 3))))
  clear Q LX LN LR LS
  go_wp2
  refine bodyPost_ret (results_word (m := lim s) rfl rfl HR.out) rfl ⟨rfl, HQ.out⟩

set_option maxRecDepth 100000 in
set_option maxHeartbeats 4000000 in
theorem refSmod_false (a b x y q s : Nat) (hx : Ret Try.prog 26 #[.agg #[.int .u64 (lim a 0), .int .u64 (lim a 1), .int .u64 (lim a 2), .int .u64 (lim a 3)]] (.agg #[.int .u64 (lim x 0), .int .u64 (lim x 1), .int .u64 (lim x 2), .int .u64 (lim x 3)])) (hy : Ret Try.prog 26 #[.agg #[.int .u64 (lim b 0), .int .u64 (lim b 1), .int .u64 (lim b 2), .int .u64 (lim b 3)]] (.agg #[.int .u64 (lim y 0), .int .u64 (lim y 1), .int .u64 (lim y 2), .int .u64 (lim y 3)])) (hd : Ret Try.prog 8 #[.agg #[.int .u64 (lim x 0), .int .u64 (lim x 1), .int .u64 (lim x 2), .int .u64 (lim x 3)], .agg #[.int .u64 (lim y 0), .int .u64 (lim y 1), .int .u64 (lim y 2), .int .u64 (lim y 3)]] (.agg #[.int .u64 (lim q 0), .int .u64 (lim q 1), .int .u64 (lim q 2), .int .u64 (lim q 3)])) (ba : Ret Try.prog 27 #[.agg #[.int .u64 (lim a 0), .int .u64 (lim a 1), .int .u64 (lim a 2), .int .u64 (lim a 3)]] (.bool false)) :
    Ret Try.prog 12 #[.agg #[.int .u64 (lim a 0), .int .u64 (lim a 1), .int .u64 (lim a 2), .int .u64 (lim a 3)], .agg #[.int .u64 (lim b 0), .int .u64 (lim b 1), .int .u64 (lim b 2), .int .u64 (lim b 3)]] (.agg #[.int .u64 (lim q 0), .int .u64 (lim q 1), .int .u64 (lim q 2), .int .u64 (lim q 3)]) := by
  intro w
  have Hhx := Lib.hid hx
  have Hhy := Lib.hid hy
  have Hhd := Lib.hid hd
  have Hba := Lib.hid ba
  clear hx hy hd ba
  go_enter Try.func12, Try.ntmps12
  have LX := Has.new w 24 #[.int .u64 (lim a 0), .int .u64 (lim a 1), .int .u64 (lim a 2), .int .u64 (lim a 3)]
  have k1 := LX.cell 0 _ rfl
  have k2 := LX.cell 1 _ rfl
  have k3 := LX.cell 2 _ rfl
  have k4 := LX.cell 3 _ rfl
  have LX := LX.alloc (.cells #[.int .u64 (lim b 0), .int .u64 (lim b 1), .int .u64 (lim b 2), .int .u64 (lim b 3)] 24)
  have LN := Has.new (w.alloc (.cells #[.int .u64 (lim a 0), .int .u64 (lim a 1), .int .u64 (lim a 2), .int .u64 (lim a 3)] 24)) 24 #[.int .u64 (lim b 0), .int .u64 (lim b 1), .int .u64 (lim b 2), .int .u64 (lim b 3)]
  simp only [World.size_alloc] at LN
  have k5 := LX.cell 0 _ rfl
  have k6 := LX.cell 1 _ rfl
  have k7 := LX.cell 2 _ rfl
  have k8 := LX.cell 3 _ rfl
  have k9 := LN.cell 0 _ rfl
  have k10 := LN.cell 1 _ rfl
  have k11 := LN.cell 2 _ rfl
  have k12 := LN.cell 3 _ rfl
  have LX := LX.alloc (.cells #[.int .u64 0, .int .u64 0, .int .u64 0, .int .u64 0] 24)
  have LN := LN.alloc (.cells #[.int .u64 0, .int .u64 0, .int .u64 0, .int .u64 0] 24)
  have LR := Has.new ((w.alloc (.cells #[.int .u64 (lim a 0), .int .u64 (lim a 1), .int .u64 (lim a 2), .int .u64 (lim a 3)] 24)).alloc (.cells #[.int .u64 (lim b 0), .int .u64 (lim b 1), .int .u64 (lim b 2), .int .u64 (lim b 3)] 24)) 24 #[.int .u64 0, .int .u64 0, .int .u64 0, .int .u64 0]
  simp only [World.size_alloc] at LR
  have k13 := LX.cell 0 _ rfl
  have k14 := LX.cell 1 _ rfl
  have k15 := LX.cell 2 _ rfl
  have k16 := LX.cell 3 _ rfl
  have k17 := LN.cell 0 _ rfl
  have k18 := LN.cell 1 _ rfl
  have k19 := LN.cell 2 _ rfl
  have k20 := LN.cell 3 _ rfl
  have k21 := LR.cell 0 _ rfl
  have k22 := LR.cell 1 _ rfl
  have k23 := LR.cell 2 _ rfl
  have k24 := LR.cell 3 _ rfl
  have Q := (Below.refl w.heap.size w)
  have Q := Q.alloc Q.size (.cells #[.int .u64 (lim a 0), .int .u64 (lim a 1), .int .u64 (lim a 2), .int .u64 (lim a 3)] 24)
  have Q := Q.alloc Q.size (.cells #[.int .u64 (lim b 0), .int .u64 (lim b 1), .int .u64 (lim b 2), .int .u64 (lim b 3)] 24)
  have Q := Q.alloc Q.size (.cells #[.int .u64 0, .int .u64 0, .int .u64 0, .int .u64 0] 24)
  go_wp2_with fail
  clear k1 k2 k3 k4 k5 k6 k7 k8 k9 k10 k11 k12 k13 k14 k15 k16 k17 k18 k19 k20 k21 k22 k23 k24
  obtain ⟨W1, hW1⟩ : ∃ W1, (((w.alloc (.cells #[.int .u64 (lim a 0), .int .u64 (lim a 1), .int .u64 (lim a 2), .int .u64 (lim a 3)] 24)).alloc (.cells #[.int .u64 (lim b 0), .int .u64 (lim b 1), .int .u64 (lim b 2), .int .u64 (lim b 3)] 24)).alloc (.cells #[.int .u64 0, .int .u64 0, .int .u64 0, .int .u64 0] 24)) = W1 := ⟨_, rfl⟩
  rw [hW1] at LX LN LR Q ⊢
  clear hW1
  refine wp_region_ghost [some (.agg #[.int .u64 (lim a 0), .int .u64 (lim a 1), .int .u64 (lim a 2), .int .u64 (lim a 3)]), some (.agg #[.int .u64 (lim x 0), .int .u64 (lim x 1), .int .u64 (lim x 2), .int .u64 (lim x 3)]), some (.agg #[.int .u64 (lim b 0), .int .u64 (lim b 1), .int .u64 (lim b 2), .int .u64 (lim b 3)]), some (.agg #[.int .u64 (lim y 0), .int .u64 (lim y 1), .int .u64 (lim y 2), .int .u64 (lim y 3)]), some (.agg #[.int .u64 (lim q 0), .int .u64 (lim q 1), .int .u64 (lim q 2), .int .u64 (lim q 3)]), none, none] [[], [0], [], [0, 1, 2], [0, 1, 2, 3], [], [0, 1, 2, 3, 4, 5]] (fun f g w' => Below W1.heap.size W1 w' ∧ (f 5 = true → ∃ B, g 5 = .pointer (some ⟨B, 0, none⟩) ∧ W1.heap.size ≤ B ∧ Has w' B 24 (cellsIf (f 6) #[.int .u64 (lim q 0), .int .u64 (lim q 1), .int .u64 (lim q 2), .int .u64 (lim q 3)] #[.int .u64 0, .int .u64 0, .int .u64 0, .int .u64 0])))
    (by kernel_rfl) (by kernel_rfl) (by kernel_rfl) ?_ ?_ ?_ ?_
  · rintro f g wa wb ⟨h1, h2⟩ hb
    exact ⟨h1.trans (hb.mono h1.size), fun h => let ⟨B, e, hB, hL⟩ := h2 h; ⟨B, e, hB, hL.later hb⟩⟩
  · intro f f' g g' wa h
    have ha := h 5 rfl
    have hs := h 6 rfl
    simp only [ha.1, ha.2, hs.1]
    exact id
  · exact ⟨(Below.refl _ _).drew, by simp⟩
  rintro f g y25 ⟨h1, h2⟩ Dn
  have LX := LX.later h1
  have LN := LN.later h1
  have LR := LR.later h1
  have k26 := LX.cell 0 _ rfl
  have k27 := LX.cell 1 _ rfl
  have k28 := LX.cell 2 _ rfl
  have k29 := LX.cell 3 _ rfl
  have k30 := LN.cell 0 _ rfl
  have k31 := LN.cell 1 _ rfl
  have k32 := LN.cell 2 _ rfl
  have k33 := LN.cell 3 _ rfl
  have k34 := LR.cell 0 _ rfl
  have k35 := LR.cell 1 _ rfl
  have k36 := LR.cell 2 _ rfl
  have k37 := LR.cell 3 _ rfl
  refine GW.known _ rfl (fun hd hf => ?_) ?_
  · go_wp2
    exact ⟨rfl, rfl, Below.refl _ _⟩
  simp only [Act.put, List.setIfInBounds_toArray, List.set_cons_succ, List.set_cons_zero]
  refine GW.known _ rfl (fun hd hf => ?_) ?_
  · go_wp2_with fail
    refine (Hhx.out _).mono ?_
    rintro e u ⟨rfl, hb⟩
    go_wp2
    exact ⟨rfl, rfl, hb⟩
  simp only [Act.put, List.setIfInBounds_toArray, List.set_cons_succ, List.set_cons_zero]
  refine GW.known _ rfl (fun hd hf => ?_) ?_
  · go_wp2
    exact ⟨rfl, rfl, Below.refl _ _⟩
  simp only [Act.put, List.setIfInBounds_toArray, List.set_cons_succ, List.set_cons_zero]
  refine GW.known _ rfl (fun hd hf => ?_) ?_
  · go_wp2_with fail
    refine (Hhy.out _).mono ?_
    rintro e u ⟨rfl, hb⟩
    go_wp2
    exact ⟨rfl, rfl, hb⟩
  simp only [Act.put, List.setIfInBounds_toArray, List.set_cons_succ, List.set_cons_zero]
  refine GW.known _ rfl (fun hd hf => ?_) ?_
  · go_wp2_with fail
    refine (Hhd.out _).mono ?_
    rintro e u ⟨rfl, hb⟩
    go_wp2
    exact ⟨rfl, rfl, hb⟩
  simp only [Act.put, List.setIfInBounds_toArray, List.set_cons_succ, List.set_cons_zero]
  refine GW.open rfl (fun hd hf => ?_) ?_
  · have fs : f 6 = false := by
      cases h : f 6 with
      | false => rfl
      | true => have := Dn 6 h 5 (by decide); rw [hf] at this; cases this
    have fu : upd f 5 true 6 = false := (upd_ne f true (show (6 : Nat) ≠ 5 by decide)).trans fs
    go_wp2
    refine ⟨rfl, h1.alloc h1.size _, fun _ => ⟨_, rfl, h1.size, ?_⟩⟩
    show Has _ _ 24 (cellsIf (upd f 5 true 6) #[.int .u64 (lim q 0), .int .u64 (lim q 1), .int .u64 (lim q 2), .int .u64 (lim q 3)] #[.int .u64 0, .int .u64 0, .int .u64 0, .int .u64 0])
    rw [fu, cellsIf_false]
    exact Has.new _ _ _
  simp only [Act.put, List.setIfInBounds_toArray, List.set_cons_succ, List.set_cons_zero]
  refine GW.open rfl (fun hd hf => ?_) ?_
  · obtain ⟨B, eB, hB, LB⟩ := h2 (hd 5 (by decide))
    rw [hf, cellsIf_false] at LB
    rw [eB]
    have c0 := LB.cell 0 _ rfl
    have z0 := LB.frozen 0
    have c1 := LB.cell 1 _ rfl
    have z1 := LB.frozen 1
    have c2 := LB.cell 2 _ rfl
    have z2 := LB.frozen 2
    have c3 := LB.cell 3 _ rfl
    have z3 := LB.frozen 3
    go_wp2
    refine ⟨rfl, ((((h1.setCell (p := ⟨B, 0, none⟩) hB (.int .u64 (lim q 0))).setCell (p := ⟨B, 1, none⟩) hB (.int .u64 (lim q 1))).setCell (p := ⟨B, 2, none⟩) hB (.int .u64 (lim q 2))).setCell (p := ⟨B, 3, none⟩) hB (.int .u64 (lim q 3))), fun _ => ⟨B, eB, hB, ?_⟩⟩
    show Has _ B 24 (cellsIf (upd f 6 true 6) #[.int .u64 (lim q 0), .int .u64 (lim q 1), .int .u64 (lim q 2), .int .u64 (lim q 3)] #[.int .u64 0, .int .u64 0, .int .u64 0, .int .u64 0])
    rw [upd_self, cellsIf_true]
    exact ((((LB.set 0 (.int .u64 (lim q 0))).set 1 (.int .u64 (lim q 1))).set 2 (.int .u64 (lim q 2))).set 3 (.int .u64 (lim q 3)))
  simp only [Act.put, List.setIfInBounds_toArray, List.set_cons_succ, List.set_cons_zero]
  refine GW.nil (fun hall => ?_)
  obtain ⟨b25, eB, hB, LS⟩ := h2 (hall 5 (by omega))
  rw [hall 6 (by omega), cellsIf_true] at LS
  have Q := Q.trans (h1.mono Q.size)
  clear h2 Dn hall k26 k27 k28 k29 k30 k31 k32 k33 k34 k35 k36 k37
  rw [eB]
  clear eB hB h1
  have k38 := LX.cell 0 _ rfl
  have k39 := LX.cell 1 _ rfl
  have k40 := LX.cell 2 _ rfl
  have k41 := LX.cell 3 _ rfl
  have k42 := LN.cell 0 _ rfl
  have k43 := LN.cell 1 _ rfl
  have k44 := LN.cell 2 _ rfl
  have k45 := LN.cell 3 _ rfl
  have k46 := LR.cell 0 _ rfl
  have k47 := LR.cell 1 _ rfl
  have k48 := LR.cell 2 _ rfl
  have k49 := LR.cell 3 _ rfl
  have k50 := LS.cell 0 _ rfl
  have k51 := LS.cell 1 _ rfl
  have k52 := LS.cell 2 _ rfl
  have k53 := LS.cell 3 _ rfl
  go_wp2_with fail
  clear k38 k39 k40 k41 k42 k43 k44 k45 k46 k47 k48 k49 k50 k51 k52 k53
  refine (Hba.out _).mono ?_
  rintro e v54 ⟨rfl, q⟩
  have LX := LX.later q
  have LN := LN.later q
  have LR := LR.later q
  have LS := LS.later q
  have Q := Q.trans (q.mono Q.size)
  clear q
  have r0 := LR.cell 0 _ rfl
  have z0 := LR.frozen 0
  have r1 := LR.cell 1 _ rfl
  have z1 := LR.frozen 1
  have r2 := LR.cell 2 _ rfl
  have z2 := LR.frozen 2
  have r3 := LR.cell 3 _ rfl
  have z3 := LR.frozen 3
  have k55 := LX.cell 0 _ rfl
  have k56 := LX.cell 1 _ rfl
  have k57 := LX.cell 2 _ rfl
  have k58 := LX.cell 3 _ rfl
  have k59 := LN.cell 0 _ rfl
  have k60 := LN.cell 1 _ rfl
  have k61 := LN.cell 2 _ rfl
  have k62 := LN.cell 3 _ rfl
  have k63 := LS.cell 0 _ rfl
  have k64 := LS.cell 1 _ rfl
  have k65 := LS.cell 2 _ rfl
  have k66 := LS.cell 3 _ rfl
  have HR := Lib.hid (((((LR.set 0 (.int .u64 (lim q 0))).set 1 (.int .u64 (lim q 1))).set 2 (.int .u64 (lim q 2))).set 3 (.int .u64 (lim q 3))))
  have HQ := Lib.hid (((((Q.setCell (p := ⟨w.heap.size + 1 + 1, 0, none⟩) (show w.heap.size ≤ _ by simp; first | done | omega) (.int .u64 (lim q 0))).setCell (p := ⟨w.heap.size + 1 + 1, 1, none⟩) (show w.heap.size ≤ _ by simp; first | done | omega) (.int .u64 (lim q 1))).setCell (p := ⟨w.heap.size + 1 + 1, 2, none⟩) (show w.heap.size ≤ _ by simp; first | done | omega) (.int .u64 (lim q 2))).setCell (p := ⟨w.heap.size + 1 + 1, 3, none⟩) (show w.heap.size ≤ _ by simp; first | done | omega) (.int .u64 (lim q 3))))
  clear Q LX LN LR LS
  go_wp2
  refine bodyPost_ret (results_word (m := lim q) rfl rfl HR.out) rfl ⟨rfl, HQ.out⟩

theorem szN_w (a : Nat) (ha : W256 a) : W256 (szN a) := by
  have := szN_le a ha
  unfold W256
  omega
theorem refSdiv_ret (a b : Nat) (ha : W256 a) (hb : W256 b) : Ret Try.prog 10 #[wv a, wv b] (wv (sgN (szN a / szN b) (negN a != negN b))) := by
  have hx := refSize_ret a ha
  have hy := refSize_ret b hb
  have hd := refDiv_ret (szN a) (szN b) (szN_w a ha) (szN_w b hb)
  have hm := refMinus_ret (szN a / szN b) (by have := szN_w a ha; unfold W256 at *; exact Nat.lt_of_le_of_lt (Nat.div_le_self _ _) this)
  have h1 := refBelow_ret a ha
  have h2 := refBelow_ret b hb
  unfold sgN
  cases ea : negN a <;> cases eb : negN b <;> rw [ea] at h1 <;> rw [eb] at h2
  · exact refSdiv_false_false a b _ _ _ 0 hx hy hd h1 h2
  · exact refSdiv_false_true a b _ _ _ _ hx hy hd h1 h2 hm
  · exact refSdiv_true_false a b _ _ _ _ hx hy hd h1 h2 hm
  · exact refSdiv_true_true a b _ _ _ 0 hx hy hd h1 h2
theorem refSmod_ret (a b : Nat) (ha : W256 a) (hb : W256 b) : Ret Try.prog 12 #[wv a, wv b] (wv (sgN (if szN b = 0 then 0 else szN a % szN b) (negN a))) := by
  have hx := refSize_ret a ha
  have hy := refSize_ret b hb
  have hd := refMod_ret (szN a) (szN b) (szN_w a ha) (szN_w b hb)
  have hw : W256 (if szN b = 0 then 0 else szN a % szN b) := by
    have := szN_w a ha
    unfold W256 at *
    split
    · omega
    · exact Nat.lt_of_le_of_lt (Nat.mod_le _ _) this
  have hm := refMinus_ret _ hw
  have h1 := refBelow_ret a ha
  unfold sgN
  cases ea : negN a <;> rw [ea] at h1
  · exact refSmod_false a b _ _ _ 0 hx hy hd h1
  · exact refSmod_true a b _ _ _ _ hx hy hd h1 hm

end Go.Proofs.Ytnlcllhjhbaigaa
