/- Part. -/
import Derived.Test.YtnkhmgmganejmaaGreatDoorG25
import Derived.Test.YtnkhmgmganejmaaGreatDoorG17
set_option maxRecDepth 100000
set_option maxHeartbeats 16000000
namespace Go.Proofs.YtnkhmgmganejmaaGreatDoor
section
open Go Go.RowKit
attribute [local go_sem] Oper.semAt_some Grows wide_fn eq4
def LoopW (w0 : World) (a b c k : Nat) (lv : Value) (wr : World) : Prop := WdRow wr w0.heap.size lv (chL a b c k) ∧ Below w0.heap.size w0 wr
theorem chains_w (W : World) (hT : Tab W) (a b c x y z p q r : Nat) (n : Int) (t : Nat) (L M N : List Nat) (ha : W256 a) (hb : W256 b) (hc : W256 c) (hn : I64 n) (hp : pickN n 16 = (p : Int)) (hp16 : p < 16) (hq : (128 : Int) + (p : Int) = (q : Int)) (hr : (144 : Int) + (p : Int) = (r : Int))
  (hL : chL a b c 17 = L) (g1 : TopIs 1 [a, b] x) (g2 : TopIs 1 [x, c] y) (g3 : TopIs 1 [b, c] z) (g4 : TopIs 1 [z, a] y)
  (d1 : doE q L = 0 ∧ doL q L = N) (d2 : doE r L = 0 ∧ doL r L = M) (d3 : doE r M = 0 ∧ doL r M = L) (hN : N.length = 18) (hM : M.length = 17) (hNt : N[17]? = some t) (hLt : L[16 - p]? = some t) (hNL : N.take 17 = L) :
  Calls Tryz.prog 6 #[wv a, wv b, wv c, .int .i64 n] W fun e w' => e = .returned (.bool true) ∧ Below W.heap.size W w' := by
 have hmx : Tryz.prog.follows .mixedOrders = true := by kernel_rfl
 have HTB := hid hT
 have Va := hid ha
 have Vb := hid hb
 have Vc := hid hc
 have HPK := hid (pick_ret16 n hn 16 (by decide) (by decide))
 rw [hp] at HPK
 have HPQ := hid (And.intro hp16 (And.intro hq hr))
 have T1 := hid g1
 have T2 := hid g2
 have T3 := hid g3
 have T4 := hid g4
 have Jd1 := hid d1
 have Jd2 := hid d2
 have Jd3 := hid d3
 have JhL := hid hL
 have JhN := hid hN
 have JhM := hid hM
 have JhNt := hid hNt
 have JhLt := hid hLt
 have JhNL := hid hNL
 clear hT ha hb hc hn hp hp16 hq hr g1 g2 g3 g4 d1 d2 d3 hL hN hM hNt hLt hNL
 unfold wv
 go_enter Tryz.func6, Tryz.ntmps6
 have q1 := newA W (.cells #[.int .u64 (lim a 0), .int .u64 (lim a 1), .int .u64 (lim a 2), .int .u64 (lim a 3)] 24)
 have HAt := Has.new W 24 #[.int .u64 (lim a 0), .int .u64 (lim a 1), .int .u64 (lim a 2), .int .u64 (lim a 3)]
 try simp only [World.size_alloc] at HAt
 have HA := hid HAt
 clear HAt
 replace HTB := hid (HTB.out.later q1)
 have QQ := hid q1
 clear q1
 have LB := hid QQ.out.size
 have q2 := (Below.refl (W.alloc (.cells #[.int .u64 (lim a 0), .int .u64 (lim a 1), .int .u64 (lim a 2), .int .u64 (lim a 3)] 24)).heap.size (W.alloc (.cells #[.int .u64 (lim a 0), .int .u64 (lim a 1), .int .u64 (lim a 2), .int .u64 (lim a 3)] 24))).alloc (Nat.le_refl _) (.cells #[.int .u64 (lim b 0), .int .u64 (lim b 1), .int .u64 (lim b 2), .int .u64 (lim b 3)] 24)
 have HBt := Has.new (W.alloc (.cells #[.int .u64 (lim a 0), .int .u64 (lim a 1), .int .u64 (lim a 2), .int .u64 (lim a 3)] 24)) 24 #[.int .u64 (lim b 0), .int .u64 (lim b 1), .int .u64 (lim b 2), .int .u64 (lim b 3)]
 try simp only [World.size_alloc] at HBt
 have HB := hid HBt
 clear HBt
 replace HTB := hid (HTB.out.later q2)
 replace HA := hid (HA.out.later q2)
 replace QQ := hid (QQ.out.trans (q2.mono QQ.out.size))
 clear q2
 have LC := hid QQ.out.size
 have q3 := (Below.refl ((W.alloc (.cells #[.int .u64 (lim a 0), .int .u64 (lim a 1), .int .u64 (lim a 2), .int .u64 (lim a 3)] 24)).alloc (.cells #[.int .u64 (lim b 0), .int .u64 (lim b 1), .int .u64 (lim b 2), .int .u64 (lim b 3)] 24)).heap.size ((W.alloc (.cells #[.int .u64 (lim a 0), .int .u64 (lim a 1), .int .u64 (lim a 2), .int .u64 (lim a 3)] 24)).alloc (.cells #[.int .u64 (lim b 0), .int .u64 (lim b 1), .int .u64 (lim b 2), .int .u64 (lim b 3)] 24))).alloc (Nat.le_refl _) (.cells #[.int .u64 (lim c 0), .int .u64 (lim c 1), .int .u64 (lim c 2), .int .u64 (lim c 3)] 24)
 have HCt := Has.new ((W.alloc (.cells #[.int .u64 (lim a 0), .int .u64 (lim a 1), .int .u64 (lim a 2), .int .u64 (lim a 3)] 24)).alloc (.cells #[.int .u64 (lim b 0), .int .u64 (lim b 1), .int .u64 (lim b 2), .int .u64 (lim b 3)] 24)) 24 #[.int .u64 (lim c 0), .int .u64 (lim c 1), .int .u64 (lim c 2), .int .u64 (lim c 3)]
 try simp only [World.size_alloc] at HCt
 have HC := hid HCt
 clear HCt
 replace HTB := hid (HTB.out.later q3)
 replace HA := hid (HA.out.later q3)
 replace HB := hid (HB.out.later q3)
 replace QQ := hid (QQ.out.trans (q3.mono QQ.out.size))
 clear q3
 go_wp2_with fail
 refine (awake_any _ HTB.out).mono ?_
 rintro _ w4 ⟨rfl, q⟩
 replace HTB := hid (HTB.out.later q)
 replace HA := hid (HA.out.later q)
 replace HB := hid (HB.out.later q)
 replace HC := hid (HC.out.later q)
 replace QQ := hid (QQ.out.trans (q.mono QQ.out.size))
 clear q
 have kA0 := HA.out.cell 0 _ rfl
 have kA1 := HA.out.cell 1 _ rfl
 have kA2 := HA.out.cell 2 _ rfl
 have kA3 := HA.out.cell 3 _ rfl
 have kB0 := HB.out.cell 0 _ rfl
 have kB1 := HB.out.cell 1 _ rfl
 have kB2 := HB.out.cell 2 _ rfl
 have kB3 := HB.out.cell 3 _ rfl
 have q5 := newA w4 (.cells #[.int .u64 (lim a 0), .int .u64 (lim a 1), .int .u64 (lim a 2), .int .u64 (lim a 3), .int .u64 (lim b 0), .int .u64 (lim b 1), .int .u64 (lim b 2), .int .u64 (lim b 3)] 24)
 have S1t := made_ofC w4 [a, b] [.int .u64 (lim a 0), .int .u64 (lim a 1), .int .u64 (lim a 2), .int .u64 (lim a 3), .int .u64 (lim b 0), .int .u64 (lim b 1), .int .u64 (lim b 2), .int .u64 (lim b 3)] rfl (by simp only [List.mem_cons, List.not_mem_nil, or_false, forall_eq_or_imp, forall_eq]; exact ⟨Va.out, Vb.out⟩) (by simp)
 try simp only [World.size_alloc] at S1t
 have S1 := hid S1t
 clear S1t
 replace HTB := hid (HTB.out.later q5)
 replace HA := hid (HA.out.later q5)
 replace HB := hid (HB.out.later q5)
 replace HC := hid (HC.out.later q5)
 replace QQ := hid (QQ.out.trans (q5.mono QQ.out.size))
 clear q5
 go_wp2_with fail
 refine (top_is _ HTB.out _ _ _ _ (by decide) S1.out (by simp) T1.out (.agg #[.int .u64 (lim x 0), .int .u64 (lim x 1), .int .u64 (lim x 2), .int .u64 (lim x 3)]) rfl).mono ?_
 rintro _ w6 ⟨rfl, hv, q⟩
 replace HTB := hid (HTB.out.later q)
 replace HA := hid (HA.out.later q)
 replace HB := hid (HB.out.later q)
 replace HC := hid (HC.out.later q)
 replace S1 := hid (S1.out.later q)
 replace QQ := hid (QQ.out.trans (q.mono QQ.out.size))
 clear q
 have Vx := hid hv
 clear hv
 clear kA0 kA1 kA2 kA3 kB0 kB1 kB2 kB3
 clear S1
 have ZX := Has.new w6 24 #[.int .u64 0, .int .u64 0, .int .u64 0, .int .u64 0]
 try simp only [World.size_alloc] at ZX
 have zX0 := ZX.cell 0 _ rfl
 have yX0 := ZX.frozen 0
 have zX1 := ZX.cell 1 _ rfl
 have yX1 := ZX.frozen 1
 have zX2 := ZX.cell 2 _ rfl
 have yX2 := ZX.frozen 2
 have zX3 := ZX.cell 3 _ rfl
 have yX3 := ZX.frozen 3
 clear ZX
 have LX := hid QQ.out.size
 have q7 := newA w6 (.cells #[.int .u64 (lim x 0), .int .u64 (lim x 1), .int .u64 (lim x 2), .int .u64 (lim x 3)] 24)
 have HXt := Has.new w6 24 #[.int .u64 (lim x 0), .int .u64 (lim x 1), .int .u64 (lim x 2), .int .u64 (lim x 3)]
 try simp only [World.size_alloc] at HXt
 have HX := hid HXt
 clear HXt
 replace HTB := hid (HTB.out.later q7)
 replace HA := hid (HA.out.later q7)
 replace HB := hid (HB.out.later q7)
 replace HC := hid (HC.out.later q7)
 replace QQ := hid (QQ.out.trans (q7.mono QQ.out.size))
 clear q7
 have kC0 := HC.out.cell 0 _ rfl
 have kC1 := HC.out.cell 1 _ rfl
 have kC2 := HC.out.cell 2 _ rfl
 have kC3 := HC.out.cell 3 _ rfl
 have kX0 := HX.out.cell 0 _ rfl
 have kX1 := HX.out.cell 1 _ rfl
 have kX2 := HX.out.cell 2 _ rfl
 have kX3 := HX.out.cell 3 _ rfl
 have q8 := (Below.refl (w6.alloc (.cells #[.int .u64 (lim x 0), .int .u64 (lim x 1), .int .u64 (lim x 2), .int .u64 (lim x 3)] 24)).heap.size (w6.alloc (.cells #[.int .u64 (lim x 0), .int .u64 (lim x 1), .int .u64 (lim x 2), .int .u64 (lim x 3)] 24))).alloc (Nat.le_refl _) (.cells #[.int .u64 (lim x 0), .int .u64 (lim x 1), .int .u64 (lim x 2), .int .u64 (lim x 3), .int .u64 (lim c 0), .int .u64 (lim c 1), .int .u64 (lim c 2), .int .u64 (lim c 3)] 24)
 have S2t := made_ofC (w6.alloc (.cells #[.int .u64 (lim x 0), .int .u64 (lim x 1), .int .u64 (lim x 2), .int .u64 (lim x 3)] 24)) [x, c] [.int .u64 (lim x 0), .int .u64 (lim x 1), .int .u64 (lim x 2), .int .u64 (lim x 3), .int .u64 (lim c 0), .int .u64 (lim c 1), .int .u64 (lim c 2), .int .u64 (lim c 3)] rfl (by simp only [List.mem_cons, List.not_mem_nil, or_false, forall_eq_or_imp, forall_eq]; exact ⟨Vx.out, Vc.out⟩) (by simp)
 try simp only [World.size_alloc] at S2t
 have S2 := hid S2t
 clear S2t
 replace HTB := hid (HTB.out.later q8)
 replace HA := hid (HA.out.later q8)
 replace HB := hid (HB.out.later q8)
 replace HC := hid (HC.out.later q8)
 replace HX := hid (HX.out.later q8)
 replace QQ := hid (QQ.out.trans (q8.mono QQ.out.size))
 clear q8
 go_wp2_with fail
 refine (top_is _ HTB.out _ _ _ _ (by decide) S2.out (by simp) T2.out (.agg #[.int .u64 (lim y 0), .int .u64 (lim y 1), .int .u64 (lim y 2), .int .u64 (lim y 3)]) rfl).mono ?_
 rintro _ w9 ⟨rfl, hv, q⟩
 replace HTB := hid (HTB.out.later q)
 replace HA := hid (HA.out.later q)
 replace HB := hid (HB.out.later q)
 replace HC := hid (HC.out.later q)
 replace HX := hid (HX.out.later q)
 replace S2 := hid (S2.out.later q)
 replace QQ := hid (QQ.out.trans (q.mono QQ.out.size))
 clear q
 have Vy := hid hv
 clear hv
 clear zX0 yX0 zX1 yX1 zX2 yX2 zX3 yX3 kC0 kC1 kC2 kC3 kX0 kX1 kX2 kX3
 clear S2
 have ZY := Has.new w9 24 #[.int .u64 0, .int .u64 0, .int .u64 0, .int .u64 0]
 try simp only [World.size_alloc] at ZY
 have zY0 := ZY.cell 0 _ rfl
 have yY0 := ZY.frozen 0
 have zY1 := ZY.cell 1 _ rfl
 have yY1 := ZY.frozen 1
 have zY2 := ZY.cell 2 _ rfl
 have yY2 := ZY.frozen 2
 have zY3 := ZY.cell 3 _ rfl
 have yY3 := ZY.frozen 3
 clear ZY
 have LY := hid QQ.out.size
 have q10 := newA w9 (.cells #[.int .u64 (lim y 0), .int .u64 (lim y 1), .int .u64 (lim y 2), .int .u64 (lim y 3)] 24)
 have HYt := Has.new w9 24 #[.int .u64 (lim y 0), .int .u64 (lim y 1), .int .u64 (lim y 2), .int .u64 (lim y 3)]
 try simp only [World.size_alloc] at HYt
 have HY := hid HYt
 clear HYt
 replace HTB := hid (HTB.out.later q10)
 replace HA := hid (HA.out.later q10)
 replace HB := hid (HB.out.later q10)
 replace HC := hid (HC.out.later q10)
 replace HX := hid (HX.out.later q10)
 replace QQ := hid (QQ.out.trans (q10.mono QQ.out.size))
 clear q10
 have kB0 := HB.out.cell 0 _ rfl
 have kB1 := HB.out.cell 1 _ rfl
 have kB2 := HB.out.cell 2 _ rfl
 have kB3 := HB.out.cell 3 _ rfl
 have kC0 := HC.out.cell 0 _ rfl
 have kC1 := HC.out.cell 1 _ rfl
 have kC2 := HC.out.cell 2 _ rfl
 have kC3 := HC.out.cell 3 _ rfl
 have q11 := (Below.refl (w9.alloc (.cells #[.int .u64 (lim y 0), .int .u64 (lim y 1), .int .u64 (lim y 2), .int .u64 (lim y 3)] 24)).heap.size (w9.alloc (.cells #[.int .u64 (lim y 0), .int .u64 (lim y 1), .int .u64 (lim y 2), .int .u64 (lim y 3)] 24))).alloc (Nat.le_refl _) (.cells #[.int .u64 (lim b 0), .int .u64 (lim b 1), .int .u64 (lim b 2), .int .u64 (lim b 3), .int .u64 (lim c 0), .int .u64 (lim c 1), .int .u64 (lim c 2), .int .u64 (lim c 3)] 24)
 have S3t := made_ofC (w9.alloc (.cells #[.int .u64 (lim y 0), .int .u64 (lim y 1), .int .u64 (lim y 2), .int .u64 (lim y 3)] 24)) [b, c] [.int .u64 (lim b 0), .int .u64 (lim b 1), .int .u64 (lim b 2), .int .u64 (lim b 3), .int .u64 (lim c 0), .int .u64 (lim c 1), .int .u64 (lim c 2), .int .u64 (lim c 3)] rfl (by simp only [List.mem_cons, List.not_mem_nil, or_false, forall_eq_or_imp, forall_eq]; exact ⟨Vb.out, Vc.out⟩) (by simp)
 try simp only [World.size_alloc] at S3t
 have S3 := hid S3t
 clear S3t
 replace HTB := hid (HTB.out.later q11)
 replace HA := hid (HA.out.later q11)
 replace HB := hid (HB.out.later q11)
 replace HC := hid (HC.out.later q11)
 replace HX := hid (HX.out.later q11)
 replace HY := hid (HY.out.later q11)
 replace QQ := hid (QQ.out.trans (q11.mono QQ.out.size))
 clear q11
 go_wp2_with fail
 refine (top_is _ HTB.out _ _ _ _ (by decide) S3.out (by simp) T3.out (.agg #[.int .u64 (lim z 0), .int .u64 (lim z 1), .int .u64 (lim z 2), .int .u64 (lim z 3)]) rfl).mono ?_
 rintro _ w12 ⟨rfl, hv, q⟩
 replace HTB := hid (HTB.out.later q)
 replace HA := hid (HA.out.later q)
 replace HB := hid (HB.out.later q)
 replace HC := hid (HC.out.later q)
 replace HX := hid (HX.out.later q)
 replace HY := hid (HY.out.later q)
 replace S3 := hid (S3.out.later q)
 replace QQ := hid (QQ.out.trans (q.mono QQ.out.size))
 clear q
 have Vz := hid hv
 clear hv
 clear zY0 yY0 zY1 yY1 zY2 yY2 zY3 yY3 kB0 kB1 kB2 kB3 kC0 kC1 kC2 kC3
 clear S3
 have ZZ := Has.new w12 24 #[.int .u64 0, .int .u64 0, .int .u64 0, .int .u64 0]
 try simp only [World.size_alloc] at ZZ
 have zZ0 := ZZ.cell 0 _ rfl
 have yZ0 := ZZ.frozen 0
 have zZ1 := ZZ.cell 1 _ rfl
 have yZ1 := ZZ.frozen 1
 have zZ2 := ZZ.cell 2 _ rfl
 have yZ2 := ZZ.frozen 2
 have zZ3 := ZZ.cell 3 _ rfl
 have yZ3 := ZZ.frozen 3
 clear ZZ
 have LZ := hid QQ.out.size
 have q13 := newA w12 (.cells #[.int .u64 (lim z 0), .int .u64 (lim z 1), .int .u64 (lim z 2), .int .u64 (lim z 3)] 24)
 have HZt := Has.new w12 24 #[.int .u64 (lim z 0), .int .u64 (lim z 1), .int .u64 (lim z 2), .int .u64 (lim z 3)]
 try simp only [World.size_alloc] at HZt
 have HZ := hid HZt
 clear HZt
 replace HTB := hid (HTB.out.later q13)
 replace HA := hid (HA.out.later q13)
 replace HB := hid (HB.out.later q13)
 replace HC := hid (HC.out.later q13)
 replace HX := hid (HX.out.later q13)
 replace HY := hid (HY.out.later q13)
 replace QQ := hid (QQ.out.trans (q13.mono QQ.out.size))
 clear q13
 have kA0 := HA.out.cell 0 _ rfl
 have kA1 := HA.out.cell 1 _ rfl
 have kA2 := HA.out.cell 2 _ rfl
 have kA3 := HA.out.cell 3 _ rfl
 have kZ0 := HZ.out.cell 0 _ rfl
 have kZ1 := HZ.out.cell 1 _ rfl
 have kZ2 := HZ.out.cell 2 _ rfl
 have kZ3 := HZ.out.cell 3 _ rfl
 have q14 := (Below.refl (w12.alloc (.cells #[.int .u64 (lim z 0), .int .u64 (lim z 1), .int .u64 (lim z 2), .int .u64 (lim z 3)] 24)).heap.size (w12.alloc (.cells #[.int .u64 (lim z 0), .int .u64 (lim z 1), .int .u64 (lim z 2), .int .u64 (lim z 3)] 24))).alloc (Nat.le_refl _) (.cells #[.int .u64 (lim z 0), .int .u64 (lim z 1), .int .u64 (lim z 2), .int .u64 (lim z 3), .int .u64 (lim a 0), .int .u64 (lim a 1), .int .u64 (lim a 2), .int .u64 (lim a 3)] 24)
 have S4t := made_ofC (w12.alloc (.cells #[.int .u64 (lim z 0), .int .u64 (lim z 1), .int .u64 (lim z 2), .int .u64 (lim z 3)] 24)) [z, a] [.int .u64 (lim z 0), .int .u64 (lim z 1), .int .u64 (lim z 2), .int .u64 (lim z 3), .int .u64 (lim a 0), .int .u64 (lim a 1), .int .u64 (lim a 2), .int .u64 (lim a 3)] rfl (by simp only [List.mem_cons, List.not_mem_nil, or_false, forall_eq_or_imp, forall_eq]; exact ⟨Vz.out, Va.out⟩) (by simp)
 try simp only [World.size_alloc] at S4t
 have S4 := hid S4t
 clear S4t
 replace HTB := hid (HTB.out.later q14)
 replace HA := hid (HA.out.later q14)
 replace HB := hid (HB.out.later q14)
 replace HC := hid (HC.out.later q14)
 replace HX := hid (HX.out.later q14)
 replace HY := hid (HY.out.later q14)
 replace HZ := hid (HZ.out.later q14)
 replace QQ := hid (QQ.out.trans (q14.mono QQ.out.size))
 clear q14
 go_wp2_with fail
 refine (top_is _ HTB.out _ _ _ _ (by decide) S4.out (by simp) T4.out (.agg #[.int .u64 (lim y 0), .int .u64 (lim y 1), .int .u64 (lim y 2), .int .u64 (lim y 3)]) rfl).mono ?_
 rintro _ w15 ⟨rfl, hv, q⟩
 replace HTB := hid (HTB.out.later q)
 replace HA := hid (HA.out.later q)
 replace HB := hid (HB.out.later q)
 replace HC := hid (HC.out.later q)
 replace HX := hid (HX.out.later q)
 replace HY := hid (HY.out.later q)
 replace HZ := hid (HZ.out.later q)
 replace S4 := hid (S4.out.later q)
 replace QQ := hid (QQ.out.trans (q.mono QQ.out.size))
 clear q
 clear hv
 clear zZ0 yZ0 zZ1 yZ1 zZ2 yZ2 zZ3 yZ3 kA0 kA1 kA2 kA3 kZ0 kZ1 kZ2 kZ3
 clear S4
 have ZY2 := Has.new w15 24 #[.int .u64 0, .int .u64 0, .int .u64 0, .int .u64 0]
 try simp only [World.size_alloc] at ZY2
 have zY20 := ZY2.cell 0 _ rfl
 have yY20 := ZY2.frozen 0
 have zY21 := ZY2.cell 1 _ rfl
 have yY21 := ZY2.frozen 1
 have zY22 := ZY2.cell 2 _ rfl
 have yY22 := ZY2.frozen 2
 have zY23 := ZY2.cell 3 _ rfl
 have yY23 := ZY2.frozen 3
 clear ZY2
 have LY2 := hid QQ.out.size
 have q16 := newA w15 (.cells #[.int .u64 (lim y 0), .int .u64 (lim y 1), .int .u64 (lim y 2), .int .u64 (lim y 3)] 24)
 have HY2t := Has.new w15 24 #[.int .u64 (lim y 0), .int .u64 (lim y 1), .int .u64 (lim y 2), .int .u64 (lim y 3)]
 try simp only [World.size_alloc] at HY2t
 have HY2 := hid HY2t
 clear HY2t
 replace HTB := hid (HTB.out.later q16)
 replace HA := hid (HA.out.later q16)
 replace HB := hid (HB.out.later q16)
 replace HC := hid (HC.out.later q16)
 replace HX := hid (HX.out.later q16)
 replace HY := hid (HY.out.later q16)
 replace HZ := hid (HZ.out.later q16)
 replace QQ := hid (QQ.out.trans (q16.mono QQ.out.size))
 clear q16
 go_wp2_with fail
 refine (HPK.out _).mono ?_
 clear zY20 yY20 zY21 yY21 zY22 yY22 zY23 yY23
 rintro _ w17 ⟨rfl, q17⟩
 replace HTB := hid (HTB.out.later q17)
 replace HA := hid (HA.out.later q17)
 replace HB := hid (HB.out.later q17)
 replace HC := hid (HC.out.later q17)
 replace HX := hid (HX.out.later q17)
 replace HY := hid (HY.out.later q17)
 replace HZ := hid (HZ.out.later q17)
 replace HY2 := hid (HY2.out.later q17)
 replace QQ := hid (QQ.out.trans (q17.mono QQ.out.size))
 clear q17
 have HL0 := hid (show LoopW w17 a b c 0 (.slice none 0 0) w17 from ⟨WdRow.nil _ _, Below.refl _ _⟩)
 go_wp2_with fail
 go_loopw [19, 20] (fun lv i wr => ∃ k : Nat, k ≤ 17 ∧ i = .int .i64 (k : Int) ∧ LoopW w17 a b c k lv wr) (fun _ i _ => 17 - (intOf i).toNat)
 case atStart => exact ⟨0, by omega, rfl, HL0.out⟩
 case round =>
  obtain ⟨k, hk, rfl, hrow, hq⟩ := hrel
  obtain ⟨lv, hlv⟩ : ∃ lv, lv = u19 := ⟨_, rfl⟩
  subst hlv
  have HROW := hid hrow
  have HQ := hid hq
  clear hrow hq
  by_cases hlt : k < 17
  ·have hltI : (k : Int) < 17 := by omega
   have k0 : (0 : Int) ≤ (k : Int) := by omega
   obtain ⟨r, hr4, hrm, hel⟩ := ch_at a b c k
   have HEL := hid hel
   have HZW := hid (ch_lt a b c k Va.out Vb.out Vc.out (by omega))
   have HSU := hid (chL_succ a b c k)
   generalize chN a b c k = zz at *
   have HOF := hid (of_nat k (by omega))
   have HK := hid (show k < 17 from hlt)
   have r0 : (0 : Int) ≤ (r : Int) := by omega
   have r4 : (r : Int) < 4 := by omega
   have hrt : Int.tmod (k : Int) 4 = (r : Int) := by rw [Int.tmod_eq_emod_of_nonneg k0]; exact hrm
   clear hk hlt hel
   go_wp2_with fail
   obtain ⟨V, hV⟩ : ∃ V, V = wr := ⟨_, rfl⟩
   subst hV
   have HBV := HQ
   have HALLW := hid (show ∀ x ∈ [a, b, c, k], W256 x by simp only [List.mem_cons, List.not_mem_nil, or_false, forall_eq_or_imp, forall_eq]; exact ⟨Va.out, Vb.out, Vc.out, by have := HK.out; unfold W256; omega⟩)
   have HLE := hid (show (chL a b c k).length + [zz].length ≤ 100000 by rw [chL_length]; have := HK.out; simp; omega)
   refine Late.wp_region_ghost [some lv, some (.agg #[.int .u64 (lim a 0), .int .u64 (lim a 1), .int .u64 (lim a 2), .int .u64 (lim a 3)]), some (.agg #[.int .u64 (lim b 0), .int .u64 (lim b 1), .int .u64 (lim b 2), .int .u64 (lim b 3)]), some (.agg #[.int .u64 (lim c 0), .int .u64 (lim c 1), .int .u64 (lim c 2), .int .u64 (lim c 3)]), some (.int .i64 (k : Int)), some (.agg #[.int .u64 (lim k 0), .int .u64 (lim k 1), .int .u64 (lim k 2), .int .u64 (lim k 3)]), none, some (.int .i64 (k : Int)), some (.int .i64 (r : Int)), none, some (.agg #[.int .u64 (lim zz 0), .int .u64 (lim zz 1), .int .u64 (lim zz 2), .int .u64 (lim zz 3)]), none, none, none] [[], [], [], [], [], [4], [1, 2, 3, 4, 5], [], [7], [1, 2, 3, 4, 5, 6, 7, 8], [1, 2, 3, 4, 5, 6, 7, 8, 9], [1, 2, 3, 4, 5, 6, 7, 8, 9, 10], [0, 1, 2, 3, 4, 5, 6, 7, 8, 9, 10, 11], [0, 1, 2, 3, 4, 5, 6, 7, 8, 9, 10, 11, 12]] (UCh 6 9 11 12 13 V w17 (chL a b c k) [a, b, c, k] zz r lv) hmx (by kernel_rfl) (by kernel_rfl) (fun f g w w' h hb => h.later hb) (fun f f' g g' w hh h => h.same (fun j hj => hh j (by rcases hj with rfl | rfl | rfl | rfl | rfl <;> rfl))) (UCh.start (by decide) (by decide) (by decide) (by decide) HROW.out HBV.out) ?_
   rintro f g y hU0 Dn
   have hU := hid hU0
   have qy := hid (show f 12 = false → Below V.heap.size V y from fun h => (hU0.2.1 h).2.1)
   clear hU0
   have n12 : ∀ j, j < 12 → f j = false → f 12 = false := fun j hj h => by
    cases e : f 12 with
    | false => rfl
    | true => exact absurd (Dn 12 e j (by simp only [List.getD_cons_succ, List.getD_cons_zero, List.mem_cons, List.not_mem_nil, or_false]; omega)) (by rw [h]; decide)
   have HN12 := hid n12
   clear n12
   refine GW.known _ rfl (fun hd hf => ?_) ?_
   ·go_wp2
    exact ⟨rfl, rfl, Below.refl _ _⟩
   simp only [Act.put, sT, sS, sZ]
   refine GW.known _ rfl (fun hd hf => ?_) ?_
   ·have q := qy.out (HN12.out 1 (by decide) hf)
    have l0 := ((HA.out.later HQ.out).later q).cell 0 _ rfl
    have l1 := ((HA.out.later HQ.out).later q).cell 1 _ rfl
    have l2 := ((HA.out.later HQ.out).later q).cell 2 _ rfl
    have l3 := ((HA.out.later HQ.out).later q).cell 3 _ rfl
    go_wp2
    exact ⟨rfl, rfl, Below.refl _ _⟩
   simp only [Act.put, sT, sS, sZ]
   refine GW.known _ rfl (fun hd hf => ?_) ?_
   ·have q := qy.out (HN12.out 2 (by decide) hf)
    have l0 := ((HB.out.later HQ.out).later q).cell 0 _ rfl
    have l1 := ((HB.out.later HQ.out).later q).cell 1 _ rfl
    have l2 := ((HB.out.later HQ.out).later q).cell 2 _ rfl
    have l3 := ((HB.out.later HQ.out).later q).cell 3 _ rfl
    go_wp2
    exact ⟨rfl, rfl, Below.refl _ _⟩
   simp only [Act.put, sT, sS, sZ]
   refine GW.known _ rfl (fun hd hf => ?_) ?_
   ·have q := qy.out (HN12.out 3 (by decide) hf)
    have l0 := ((HC.out.later HQ.out).later q).cell 0 _ rfl
    have l1 := ((HC.out.later HQ.out).later q).cell 1 _ rfl
    have l2 := ((HC.out.later HQ.out).later q).cell 2 _ rfl
    have l3 := ((HC.out.later HQ.out).later q).cell 3 _ rfl
    go_wp2
    exact ⟨rfl, rfl, Below.refl _ _⟩
   simp only [Act.put, sT, sS, sZ]
   refine GW.known _ rfl (fun hd hf => ?_) ?_
   ·go_wp2
    exact ⟨rfl, rfl, Below.refl _ _⟩
   simp only [Act.put, sT, sS, sZ]
   refine GW.known _ rfl (fun hd hf => ?_) ?_
   ·go_wp2_with fail
    refine (HOF.out _).mono ?_
    rintro e u ⟨rfl, hb⟩
    go_wp2
    exact ⟨rfl, rfl, hb⟩
   simp only [Act.put, sT, sS, sZ]
   refine GW.open rfl (fun hd hf => ?_) ?_
   ·have K := hid (hU.out.n6 (by decide) (by decide) (by decide) (by decide) (newA y (.cells #[.int .u64 (lim a 0), .int .u64 (lim a 1), .int .u64 (lim a 2), .int .u64 (lim a 3), .int .u64 (lim b 0), .int .u64 (lim b 1), .int .u64 (lim b 2), .int .u64 (lim b 3), .int .u64 (lim c 0), .int .u64 (lim c 1), .int .u64 (lim c 2), .int .u64 (lim c 3), .int .u64 (lim k 0), .int .u64 (lim k 1), .int .u64 (lim k 2), .int .u64 (lim k 3)] 24)) (by cases e : f 9 with | false => rfl | true => exact absurd (Dn 9 e 6 (by decide)) (by rw [hf]; decide)) (made_ofC y [a, b, c, k] [.int .u64 (lim a 0), .int .u64 (lim a 1), .int .u64 (lim a 2), .int .u64 (lim a 3), .int .u64 (lim b 0), .int .u64 (lim b 1), .int .u64 (lim b 2), .int .u64 (lim b 3), .int .u64 (lim c 0), .int .u64 (lim c 1), .int .u64 (lim c 2), .int .u64 (lim c 3), .int .u64 (lim k 0), .int .u64 (lim k 1), .int .u64 (lim k 2), .int .u64 (lim k 3)] rfl HALLW.out (by simp)))
    go_wp2
    exact ⟨rfl, K.out⟩
   simp only [Act.put, sT, sS, sZ]
   refine GW.known _ rfl (fun hd hf => ?_) ?_
   ·go_wp2
    exact ⟨rfl, rfl, Below.refl _ _⟩
   simp only [Act.put, sT, sS, sZ]
   refine GW.known _ rfl (fun hd hf => ?_) ?_
   ·go_wp2
    exact ⟨rfl, rfl, Below.refl _ _⟩
   simp only [Act.put, sT, sS, sZ]
   refine GW.open rfl (fun hd hf => ?_) ?_
   ·obtain ⟨b6, e6, k6⟩ := hU.out.g6 (HN12.out 9 (by decide) hf) (hd 6 (by decide))
    rw [e6]
    have K := hid (hU.out.n9 (by decide) (by decide) (by decide) (by decide) (hd 6 (by decide)) e6)
    go_wp2
    exact ⟨rfl, K.out⟩
   simp only [Act.put, sT, sS, sZ]
   refine GW.known _ rfl (fun hd hf => ?_) ?_
   ·have f6 : f 6 = true := Dn 9 (hd 9 (by decide)) 6 (by decide)
    obtain ⟨b6, e6, k6⟩ := hU.out.g6 (HN12.out 10 (by decide) hf) f6
    rw [hU.out.g9 (HN12.out 10 (by decide) hf) f6 (hd 9 (by decide)) e6]
    obtain ⟨c0, c1, c2, c3⟩ := k6.at4 HEL.out
    simp only [Addr.add_mid, Nat.zero_add] at c0 c1 c2 c3
    go_wp2
    exact ⟨rfl, rfl, Below.refl _ _⟩
   simp only [Act.put, sT, sS, sZ]
   refine GW.open rfl (fun hd hf => ?_) ?_
   ·have K := hid (hU.out.n11 (by decide) (by decide) (by decide) (by decide) (newA y (.cells #[.int .u64 (lim zz 0), .int .u64 (lim zz 1), .int .u64 (lim zz 2), .int .u64 (lim zz 3)] 24)) (HN12.out 11 (by decide) hf) (one_made y zz HZW.out))
    go_wp2
    exact ⟨rfl, K.out⟩
   simp only [Act.put, sT, sS, sZ]
   refine GW.open rfl (fun hd hf => ?_) ?_
   ·obtain ⟨b11, e11, k11⟩ := hU.out.g11 hf (hd 11 (by decide))
    rw [e11]
    obtain ⟨v', w', happ, hrow', _, hbel⟩ := append_words y w17.heap.size lv _ (hU.out.2.1 hf).1 (hU.out.base) _ [zz] k11 HLE.out
    have K := hid (hU.out.n12 (by decide) (by decide) (by decide) (by decide) (by cases e : f 13 with | false => rfl | true => exact absurd (Dn 13 e 12 (by decide)) (by rw [hf]; decide)) hbel hrow')
    clear hrow' hbel k11
    go_wp2_with (at_builtin; refine wpList_append_runW rfl (.tmp 62) (.tmp 73) 27 rfl _ _ _ rfl rfl happ ?_)
    exact ⟨rfl, K.out⟩
   simp only [Act.put, sT, sS, sZ]
   refine GW.open rfl (fun hd hf => ?_) ?_
   ·have K := hid (hU.out.n13 (by decide) (by decide) (by decide) (by decide) (hd 12 (by decide)))
    go_wp2
    exact ⟨rfl, K.out⟩
   simp only [Act.put, sT, sS, sZ]
   refine GW.nil (fun hall => ?_)
   obtain ⟨e13, hr12, hb12⟩ := hU.out.end (hall 12 (by omega)) (hall 13 (by omega))
   rw [e13]
   have HR3 := hid hr12
   have HQ3 := hid hb12
   clear hr12 hb12 e13 hU qy HN12 Dn hall
   generalize g 6 = g6 at *
   generalize g 9 = g9 at *
   generalize g 11 = g11 at *
   generalize g 12 = g12 at *
   clear g
   go_wp2_with fail
   go_roundw
   case rel => exact ⟨k + 1, by have := HK.out; omega, by simp, by rw [HSU.out]; exact HR3.out, HQ3.out⟩
   case measure => have := HK.out; simp [intOf]; omega
  ·obtain rfl : k = 17 := by omega
   have hrow := HROW.out
   rw [JhL.out] at hrow
   have HLA := hid (hrow.keys (fun y hy => by
    rw [← JhL.out] at hy
    obtain ⟨i, hi, rfl⟩ := List.mem_map.1 hy
    exact ch_lt a b c i Va.out Vb.out Vc.out (by have := List.mem_range.1 hi; omega)))
   have HLN := hid (show L.length = 17 by rw [← JhL.out, chL_length])
   clear hk hlt
   obtain ⟨V, hV⟩ : ∃ V, V = wr := ⟨_, rfl⟩
   subst hV
   have q := HQ.out
   replace HTB := hid (HTB.out.later q)
   replace HA := hid (HA.out.later q)
   replace HB := hid (HB.out.later q)
   replace HC := hid (HC.out.later q)
   replace HX := hid (HX.out.later q)
   replace HY := hid (HY.out.later q)
   replace HZ := hid (HZ.out.later q)
   replace HY2 := hid (HY2.out.later q)
   replace QQ := hid (QQ.out.trans (q.mono QQ.out.size))
   clear q HROW HQ HL0 hrow
   have p0 : (0 : Int) ≤ (p : Int) := by omega
   have p16 : (p : Int) < 16 := by have := HPQ.out.1; omega
   have hq := HPQ.out.2.1
   have hr := HPQ.out.2.2
   have q0 : (0 : Int) ≤ (q : Int) := by omega
   have q1 : (q : Int) < 256 := by omega
   have r0 : (0 : Int) ≤ (r : Int) := by omega
   have r1 : (r : Int) < 256 := by omega
   have HQ4 := hid (show q < 256 by omega)
   have HR4 := hid (show r < 256 by omega)
   obtain ⟨la, lc, hlv, hlc, _⟩ := HLA.out.shape
   rw [HLN.out] at hlv hlc
   subst hlv
   go_wp2_with fail
   refine (do_any _ HTB.out _ L q HQ4.out HLA.out (by first | (rw [HLN.out]; decide) | (rw [JhM.out]; decide))).mono ?_
   rintro _ w18 ⟨v, rfl, h, q⟩
   replace HTB := hid (HTB.out.later q)
   replace HA := hid (HA.out.later q)
   replace HB := hid (HB.out.later q)
   replace HC := hid (HC.out.later q)
   replace HX := hid (HX.out.later q)
   replace HY := hid (HY.out.later q)
   replace HZ := hid (HZ.out.later q)
   replace HY2 := hid (HY2.out.later q)
   replace HLA := hid (HLA.out.later q)
   replace QQ := hid (QQ.out.trans (q.mono QQ.out.size))
   clear q
   rw [Jd1.out.1]
   rw [Jd1.out.2] at h
   obtain ⟨aD, cD, hv, hcD, _⟩ := h.shape
   rw [JhN.out] at hv hcD
   subst hv
   have HD := hid h
   clear h
   go_wp2_with fail
   refine (do_any _ HTB.out _ L r HR4.out HLA.out (by first | (rw [HLN.out]; decide) | (rw [JhM.out]; decide))).mono ?_
   rintro _ w19 ⟨v, rfl, h, q⟩
   replace HTB := hid (HTB.out.later q)
   replace HA := hid (HA.out.later q)
   replace HB := hid (HB.out.later q)
   replace HC := hid (HC.out.later q)
   replace HX := hid (HX.out.later q)
   replace HY := hid (HY.out.later q)
   replace HZ := hid (HZ.out.later q)
   replace HY2 := hid (HY2.out.later q)
   replace HLA := hid (HLA.out.later q)
   replace HD := hid (HD.out.later q)
   replace QQ := hid (QQ.out.trans (q.mono QQ.out.size))
   clear q
   rw [Jd2.out.1]
   rw [Jd2.out.2] at h
   obtain ⟨aU, cU, hv, hcU, _⟩ := h.shape
   rw [JhM.out] at hv hcU
   subst hv
   have HU := hid h
   clear h
   go_wp2_with fail
   refine (do_any _ HTB.out _ M r HR4.out HU.out (by first | (rw [HLN.out]; decide) | (rw [JhM.out]; decide))).mono ?_
   rintro _ w20 ⟨v, rfl, h, q⟩
   replace HTB := hid (HTB.out.later q)
   replace HA := hid (HA.out.later q)
   replace HB := hid (HB.out.later q)
   replace HC := hid (HC.out.later q)
   replace HX := hid (HX.out.later q)
   replace HY := hid (HY.out.later q)
   replace HZ := hid (HZ.out.later q)
   replace HY2 := hid (HY2.out.later q)
   replace HLA := hid (HLA.out.later q)
   replace HD := hid (HD.out.later q)
   replace HU := hid (HU.out.later q)
   replace QQ := hid (QQ.out.trans (q.mono QQ.out.size))
   clear q
   rw [Jd3.out.1]
   rw [Jd3.out.2] at h
   obtain ⟨aV, cV, hv, hcV, _⟩ := h.shape
   rw [HLN.out] at hv hcV
   subst hv
   have HV := hid h
   clear h
   go_wp2_with fail
   obtain ⟨F, hF⟩ : ∃ F, F = w20 := ⟨_, rfl⟩
   subst hF
   have kY0 := fun x : Ext F => (HY.out.later x.below).cell 0 _ rfl
   have kY1 := fun x : Ext F => (HY.out.later x.below).cell 1 _ rfl
   have kY2 := fun x : Ext F => (HY.out.later x.below).cell 2 _ rfl
   have kY3 := fun x : Ext F => (HY.out.later x.below).cell 3 _ rfl
   have kY20 := fun x : Ext F => (HY2.out.later x.below).cell 0 _ rfl
   have kY21 := fun x : Ext F => (HY2.out.later x.below).cell 1 _ rfl
   have kY22 := fun x : Ext F => (HY2.out.later x.below).cell 2 _ rfl
   have kY23 := fun x : Ext F => (HY2.out.later x.below).cell 3 _ rfl
   have HTD := HD.out.take 17 (by decide)
   rw [JhNL.out] at HTD
   have HSD := hid HTD
   clear HTD
   obtain ⟨bd, hbd, _⟩ := HD.out.at JhNt.out
   obtain ⟨bl, hbl, _⟩ := HLA.out.at JhLt.out
   have hL0 : L[16 - p]? = some t := JhLt.out
   have i0 : (0 : Int) ≤ 16 - (p : Int) := by omega
   have i1 : 16 - (p : Int) < 17 := by omega
   obtain ⟨ix, hix⟩ : ∃ ix : Nat, 16 - p = ix := ⟨_, rfl⟩
   have hixI : 16 - (p : Int) = (ix : Int) := by have := HPQ.out.1; omega
   rw [hix] at hL0
   have ix0 : (0 : Int) ≤ (ix : Int) := by omega
   have ix1 : (ix : Int) < 17 := by omega
   have HLX := hid hL0
   clear hL0 hix i0 i1
   subst hbd hbl
   have cD := fun x : Ext F => (HD.out.later x.below).at4 JhNt.out
   have cL := fun x : Ext F => (HLA.out.later x.below).at4 HLX.out
   have cD0 : ∀ x : Ext F, x.w.cell? ⟨bd.block, bd.off + 68, none⟩ = some (.int .u64 (lim t 0)) := fun x => (cD x).1
   have cD1 : ∀ x : Ext F, x.w.cell? ⟨bd.block, bd.off + 69, none⟩ = some (.int .u64 (lim t 1)) := fun x => (cD x).2.1
   have cD2 : ∀ x : Ext F, x.w.cell? ⟨bd.block, bd.off + 70, none⟩ = some (.int .u64 (lim t 2)) := fun x => (cD x).2.2.1
   have cD3 : ∀ x : Ext F, x.w.cell? ⟨bd.block, bd.off + 71, none⟩ = some (.int .u64 (lim t 3)) := fun x => (cD x).2.2.2
   have cL0 := fun x : Ext F => (cL x).1
   have cL1 := fun x : Ext F => (cL x).2.1
   have cL2 := fun x : Ext F => (cL x).2.2.1
   have cL3 := fun x : Ext F => (cL x).2.2.2
   clear cD cL
   have S1 := fun x : Ext F => (same_words x.w _ _ L L (HV.out.later x.below) (HLA.out.later x.below)).mono fun e w' (h : e = .returned (.bool (decide (L = L))) ∧ Below x.w.heap.size x.w w') => (⟨h.1.trans (by simp), ⟨w', x.below.trans (h.2.mono x.below.size)⟩, rfl⟩ : e = .returned (.bool true) ∧ ∃ y : Ext F, w' = y.w)
   have S2 := fun x : Ext F => (same_words x.w _ _ L L (HSD.out.later x.below) (HLA.out.later x.below)).mono fun e w' (h : e = .returned (.bool (decide (L = L))) ∧ Below x.w.heap.size x.w w') => (⟨h.1.trans (by simp), ⟨w', x.below.trans (h.2.mono x.below.size)⟩, rfl⟩ : e = .returned (.bool true) ∧ ∃ y : Ext F, w' = y.w)
   try simp only [List.append]
   refine wp_region_quick (C := Grows F) (by kernel_rfl) (by kernel_rfl) (by kernel_rfl) (grows_refl F) ?_
   repeat (go_big_quiet_step (first | (with_reducible exact S1 _) | (with_reducible exact S2 _)))
   refine wpQuiet_nil ?_
   rintro _ ⟨x, rfl⟩
   go_wp2
   go_ret
   exact ⟨rfl, QQ.out.trans (x.below.mono QQ.out.size)⟩
end
section
open Go Go.RowKit
theorem pushE_ok {s l : List Nat} (h : s.length + l.length ≤ 1024) : pushE s l = 0 := by unfold pushE; rw [if_neg (by omega), if_neg (by omega)]
theorem pushL_ok {s l : List Nat} (h : s.length + l.length ≤ 1024) : pushL s l = s ++ l := by unfold pushL; rw [pushE_ok h, if_pos rfl]
theorem ask_in {n : Nat} {k least below : Int} (hn : n ≤ 1024) (h1 : least ≤ k) (h2 : k ≤ (n : Int) - below) : askN n k least below = 0 := by unfold askN; rw [if_neg (by omega), if_neg (by omega)]
theorem ask_out {n : Nat} {k least below : Int} (hn : n ≤ 1024) (h1 : least ≤ k) (h2 : (n : Int) - below < k) : askN n k least below = 40 := by unfold askN; rw [if_neg (by omega), if_pos h2]
theorem swpL_length (s : List Nat) (k : Int) : (swpL s k).length = s.length := by
 unfold swpL
 split
 ·rw [List.length_set, List.length_set]
 ·rfl
theorem swp_at {s : List Nat} {k : Nat} (h : askN s.length (k : Int) 1 1 = 0) (i : Nat) : (swpL s (k : Int))[i]? = if i = s.length - 1 then s[s.length - 1 - k]? else if i = s.length - 1 - k then s[s.length - 1]? else s[i]? := by
 obtain ⟨g1, g2, g3⟩ := ask_ok h
 unfold swpL
 rw [if_pos h, Int.toNat_natCast, List.getElem?_set, List.getElem?_set]
 by_cases h1 : i = s.length - 1
 ·rw [if_neg (by omega), if_pos h1.symm, if_pos h1, if_pos (by omega)]
  exact (getD_at (by omega)).symm
 ·rw [if_neg h1]
  by_cases h2 : i = s.length - 1 - k
  ·rw [if_pos h2.symm, if_pos h2, if_pos (by rw [List.length_set]; omega)]
   exact (getD_at (by omega)).symm
  ·rw [if_neg (fun e => h2 e.symm), if_neg h2, if_neg (fun e => h1 e.symm)]
theorem swp_swp (s : List Nat) (k : Nat) : swpL (swpL s (k : Int)) (k : Int) = s := by
 by_cases h : askN s.length (k : Int) 1 1 = 0
 ·obtain ⟨g1, g2, g3⟩ := ask_ok h
  have h' : askN (swpL s (k : Int)).length (k : Int) 1 1 = 0 := by rw [swpL_length]; exact h
  refine List.ext_getElem? fun i => ?_
  rw [swp_at h', swpL_length, swp_at h, swp_at h, swp_at h]
  by_cases h1 : i = s.length - 1
  ·rw [if_pos h1, if_neg (by omega), if_pos rfl, h1]
  ·rw [if_neg h1]
   by_cases h2 : i = s.length - 1 - k
   ·rw [if_pos h2, if_pos rfl, h2]
   ·rw [if_neg h2, if_neg h1, if_neg h2]
 ·have e : swpL s (k : Int) = s := by unfold swpL; rw [if_neg h]
  rw [e, e]
theorem dup_is (L : List Nat) (p q : Nat) (hL : L.length = 17) (hp : p < 16) (hq : q = 128 + p) : doE q L = 0 ∧ doL q L = L ++ [L.getD (16 - p) 0] := by
 subst hq
 have hi : isOp (128 + p) = true := by unfold isOp; simp; omega
 have e : ((128 + p : Nat) : Int) - 128 + 1 = ((p + 1 : Nat) : Int) := by omega
 have ha : askN L.length ((p + 1 : Nat) : Int) 1 0 = 0 := ask_in (by omega) (by omega) (by omega)
 have ht : topW L ((p + 1 : Nat) : Int) = L.getD (16 - p) 0 := by unfold topW; rw [hL, Int.toNat_natCast, show 17 - (p + 1) = 16 - p by omega]
 unfold doE doL
 rw [hi, if_neg (by decide), if_neg (by omega), if_pos (by omega), if_neg (by decide), if_neg (by omega), if_pos (by omega), e]
 unfold dupE dupL
 rw [ha, if_pos rfl, if_pos rfl, ht]
 exact ⟨pushE_ok (by simp; omega), pushL_ok (by simp; omega)⟩
theorem swap_is (L : List Nat) (p r : Nat) (hL : L.length = 17) (hp : p < 16) (hr : r = 144 + p) : doE r L = 0 ∧ doL r L = swpL L ((p + 1 : Nat) : Int) := by
 subst hr
 have hi : isOp (144 + p) = true := by unfold isOp; simp; omega
 have e : ((144 + p : Nat) : Int) - 144 + 1 = ((p + 1 : Nat) : Int) := by omega
 have ha : askN L.length ((p + 1 : Nat) : Int) 1 1 = 0 := ask_in (by omega) (by omega) (by omega)
 unfold doE doL
 rw [hi, if_neg (by decide), if_pos (by omega), if_neg (by decide), if_pos (by omega), e]
 exact ⟨ha, rfl⟩
theorem computeChains_any (W : World) (hT : Tab W) (a b c : Nat) (n : Int) (ha : W256 a) (hb : W256 b) (hc : W256 c) (hn : I64 n) : Calls Tryz.prog 6 #[wv a, wv b, wv c, .int .i64 n] W fun e w' => e = .returned (.bool true) ∧ Below W.heap.size W w' := by
 have hr := pickN_range n 16 (by decide)
 obtain ⟨p, hp⟩ : ∃ p : Nat, pickN n 16 = (p : Int) := ⟨(pickN n 16).toNat, by omega⟩
 have hp16 : p < 16 := by omega
 have g1 : TopIs 1 [a, b] (wmod (b + a)) := top_two 1 b a (by decide) (by decide)
 have g2 : TopIs 1 [wmod (b + a), c] (wmod (c + wmod (b + a))) := top_two 1 c _ (by decide) (by decide)
 have g3 : TopIs 1 [b, c] (wmod (c + b)) := top_two 1 c b (by decide) (by decide)
 have g4 : TopIs 1 [wmod (c + b), a] (wmod (a + wmod (c + b))) := top_two 1 a _ (by decide) (by decide)
 have e : wmod (a + wmod (c + b)) = wmod (c + wmod (b + a)) := by
  unfold wmod
  rw [Nat.add_mod_mod, Nat.add_mod_mod]
  congr 1
  omega
 rw [e] at g4
 have hL := chL_length a b c 17
 obtain ⟨L, hLL⟩ : ∃ L, chL a b c 17 = L := ⟨_, rfl⟩
 rw [hLL] at hL
 have hs2 := swap_is (swpL L ((p + 1 : Nat) : Int)) p (144 + p) (by rw [swpL_length]; exact hL) hp16 rfl
 rw [swp_swp] at hs2
 exact chains_w W hT a b c _ _ _ p (128 + p) (144 + p) n _ L _ _ ha hb hc hn hp hp16 (by omega) (by omega) hLL g1 g2 g3 g4
  (dup_is L p _ hL hp16 rfl) (swap_is L p _ hL hp16 rfl) hs2 (by simp [hL]) (by rw [swpL_length]; exact hL)
  (by rw [List.getElem?_append_right (by omega), hL]; rfl) (getD_at (by omega)) (by rw [List.take_append_of_le_length (by omega), ← hL, List.take_length])
end
end Go.Proofs.YtnkhmgmganejmaaGreatDoor
