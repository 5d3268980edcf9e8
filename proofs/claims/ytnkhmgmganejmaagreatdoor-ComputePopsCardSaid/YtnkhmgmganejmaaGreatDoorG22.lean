/- Part. -/
import Derived.Test.YtnkhmgmganejmaaGreatDoorG21
set_option maxRecDepth 100000
set_option maxHeartbeats 16000000
namespace Go.Proofs.YtnkhmgmganejmaaGreatDoor
open Go Go.RowKit
attribute [local go_sem] Oper.semAt_some Grows wide_fn eq4
def TopIs (op : Nat) (l : List Nat) (x : Nat) : Prop := topX op l = x ∧ topB op l = true
theorem zero_cells : wv 0 = .agg #[.int .u64 0, .int .u64 0, .int .u64 0, .int .u64 0] := wv_0
theorem ones_cells : wv M1 = .agg #[.int .u64 18446744073709551615, .int .u64 18446744073709551615, .int .u64 18446744073709551615, .int .u64 18446744073709551615] := wv_of ⟨by decide, by decide, by decide, by decide⟩
theorem top_is (W : World) (hT : Tab W) (sv : Value) (s : List Nat) (op x : Nat) (ho : op < 256) (hs : WdsAt W sv s) (hk : s.length ≤ 10000) (hx : TopIs op s x) (v : Value) (hv : wv x = v) :
  Calls Tryz.prog 17 #[.int .u8 (op : Int), sv] W fun e w' => e = .returned (.tuple #[v, .bool true]) ∧ W256 x ∧ Below W.heap.size W w' := by
 subst hv
 exact top_call W hT sv s op x ho hs hk hx
theorem ofC_m1 : Ret Tryz.prog 10 #[.int .i64 (-1)] (.agg #[.int .u64 18446744073709551615, .int .u64 18446744073709551615, .int .u64 18446744073709551615, .int .u64 18446744073709551615]) := (refOf_ret (-1) (by unfold I64; omega)).of_eq rfl (by rw [ofN_m1]; exact ones_cells)
theorem mods_a (W : World) (hT : Tab W) (a b e sum less want : Nat) (ha : W256 a) (hb : W256 b) (h1 : TopIs 8 [0, b, a] 0) (h2 : TopIs 9 [0, b, a] 0) (h3 : TopIs 10 [2, a] e) (h4 : TopIs 2 [a, a] e) (h5 : TopIs 8 [M1, b, a] want)
  (h6 : TopIs 1 [a, b] sum) (h7 : TopIs 16 [a, sum] less) (h8 : TopIs 1 [sum, less] want) (hne : (lim want 0 == 18446744073709551615 && lim want 1 == 18446744073709551615 && lim want 2 == 18446744073709551615 && lim want 3 == 18446744073709551615) = false) :
  Calls Tryz.prog 7 #[wv a, wv b] W fun e w' => e = .returned (.bool true) ∧ Below W.heap.size W w' := by
 have HTB := hid hT
 have Va := hid ha
 have Vb := hid hb
 have OM := hid ofC_m1
 have T1 := hid h1
 have T2 := hid h2
 have T3 := hid h3
 have T4 := hid h4
 have T5 := hid h5
 have T6 := hid h6
 have T7 := hid h7
 have T8 := hid h8
 have HNE := hid hne
 clear hT ha hb h1 h2 h3 h4 h5 h6 h7 h8 hne
 unfold wv
 go_enter Tryz.func7, Tryz.ntmps7
 have q1 := newA W (.cells #[.int .u64 (lim a 0), .int .u64 (lim a 1), .int .u64 (lim a 2), .int .u64 (lim a 3)] 24)
 have HAt := Has.new W 24 #[.int .u64 (lim a 0), .int .u64 (lim a 1), .int .u64 (lim a 2), .int .u64 (lim a 3)]
 try simp only [World.size_alloc] at HAt
 have HA := hid HAt
 clear HAt
 replace HTB := hid (HTB.out.later q1)
 have QQ := hid q1
 clear q1
 have LB := hid QQ.out.size
 have q2 := (Below.refl (W.alloc (.cells #[.int .u64 (lim a 0), .int .u64 (lim a 1), .int .u64 (lim a 2), .int .u64 (lim a 3)] 24)).heap.size (W.alloc (.cells #[.int .u64 (lim a 0), .int .u64 (lim a 1), .int .u64 (lim a 2), .int .u64 (lim a 3)] 24))).alloc (Nat.le_refl _) (.cells #[.int .u64 (lim b 0), .int .u64 (lim b 1), .int .u64 (lim b 2), .int .u64 (lim b 3)] 24)
 have HBt := Has.new (W.alloc (.cells #[.int .u64 (lim a 0), .int .u64 (lim a 1), .int .u64 (lim a 2), .int .u64 (lim a 3)] 24)) 24 #[.int .u64 (lim b 0), .int .u64 (lim b 1), .int .u64 (lim b 2), .int .u64 (lim b 3)]
 try simp only [World.size_alloc] at HBt
 have HB := hid HBt
 clear HBt
 replace HTB := hid (HTB.out.later q2)
 replace HA := hid (HA.out.later q2)
 replace QQ := hid (QQ.out.trans (q2.mono QQ.out.size))
 clear q2
 go_wp2_with fail
 refine (awake_any _ HTB.out).mono ?_
 rintro _ w3 ⟨rfl, q⟩
 replace HTB := hid (HTB.out.later q)
 replace HA := hid (HA.out.later q)
 replace HB := hid (HB.out.later q)
 replace QQ := hid (QQ.out.trans (q.mono QQ.out.size))
 clear q
 go_wp2_with fail
 refine (OM.out _).mono ?_
 rintro _ w4 ⟨rfl, q4⟩
 replace HTB := hid (HTB.out.later q4)
 replace HA := hid (HA.out.later q4)
 replace HB := hid (HB.out.later q4)
 replace QQ := hid (QQ.out.trans (q4.mono QQ.out.size))
 clear q4
 have ZM := Has.new w4 24 #[.int .u64 0, .int .u64 0, .int .u64 0, .int .u64 0]
 try simp only [World.size_alloc] at ZM
 have zM0 := ZM.cell 0 _ rfl
 have yM0 := ZM.frozen 0
 have zM1 := ZM.cell 1 _ rfl
 have yM1 := ZM.frozen 1
 have zM2 := ZM.cell 2 _ rfl
 have yM2 := ZM.frozen 2
 have zM3 := ZM.cell 3 _ rfl
 have yM3 := ZM.frozen 3
 clear ZM
 have LM := hid QQ.out.size
 have q5 := newA w4 (.cells #[.int .u64 18446744073709551615, .int .u64 18446744073709551615, .int .u64 18446744073709551615, .int .u64 18446744073709551615] 24)
 have HMt := Has.new w4 24 #[.int .u64 18446744073709551615, .int .u64 18446744073709551615, .int .u64 18446744073709551615, .int .u64 18446744073709551615]
 try simp only [World.size_alloc] at HMt
 have HM := hid HMt
 clear HMt
 replace HTB := hid (HTB.out.later q5)
 replace HA := hid (HA.out.later q5)
 replace HB := hid (HB.out.later q5)
 replace QQ := hid (QQ.out.trans (q5.mono QQ.out.size))
 clear q5
 have kA0 := HA.out.cell 0 _ rfl
 have kA1 := HA.out.cell 1 _ rfl
 have kA2 := HA.out.cell 2 _ rfl
 have kA3 := HA.out.cell 3 _ rfl
 have kB0 := HB.out.cell 0 _ rfl
 have kB1 := HB.out.cell 1 _ rfl
 have kB2 := HB.out.cell 2 _ rfl
 have kB3 := HB.out.cell 3 _ rfl
 have q6 := (Below.refl (w4.alloc (.cells #[.int .u64 18446744073709551615, .int .u64 18446744073709551615, .int .u64 18446744073709551615, .int .u64 18446744073709551615] 24)).heap.size (w4.alloc (.cells #[.int .u64 18446744073709551615, .int .u64 18446744073709551615, .int .u64 18446744073709551615, .int .u64 18446744073709551615] 24))).alloc (Nat.le_refl _) (.cells #[.int .u64 0, .int .u64 0, .int .u64 0, .int .u64 0, .int .u64 (lim b 0), .int .u64 (lim b 1), .int .u64 (lim b 2), .int .u64 (lim b 3), .int .u64 (lim a 0), .int .u64 (lim a 1), .int .u64 (lim a 2), .int .u64 (lim a 3)] 24)
 have S1t := made_ofC (w4.alloc (.cells #[.int .u64 18446744073709551615, .int .u64 18446744073709551615, .int .u64 18446744073709551615, .int .u64 18446744073709551615] 24)) [0, b, a] [.int .u64 0, .int .u64 0, .int .u64 0, .int .u64 0, .int .u64 (lim b 0), .int .u64 (lim b 1), .int .u64 (lim b 2), .int .u64 (lim b 3), .int .u64 (lim a 0), .int .u64 (lim a 1), .int .u64 (lim a 2), .int .u64 (lim a 3)] rfl (by simp only [List.mem_cons, List.not_mem_nil, or_false, forall_eq_or_imp, forall_eq]; exact ⟨(by unfold W256; omega), Vb.out, Va.out⟩) (by simp)
 try simp only [World.size_alloc] at S1t
 have S1 := hid S1t
 clear S1t
 replace HTB := hid (HTB.out.later q6)
 replace HA := hid (HA.out.later q6)
 replace HB := hid (HB.out.later q6)
 replace HM := hid (HM.out.later q6)
 replace QQ := hid (QQ.out.trans (q6.mono QQ.out.size))
 clear q6
 go_wp2_with fail
 refine (top_is _ HTB.out _ _ _ _ (by decide) S1.out (by simp) T1.out _ zero_cells).mono ?_
 rintro _ w7 ⟨rfl, _, q⟩
 replace HTB := hid (HTB.out.later q)
 replace HA := hid (HA.out.later q)
 replace HB := hid (HB.out.later q)
 replace HM := hid (HM.out.later q)
 replace S1 := hid (S1.out.later q)
 replace QQ := hid (QQ.out.trans (q.mono QQ.out.size))
 clear q
 clear zM0 yM0 zM1 yM1 zM2 yM2 zM3 yM3 kA0 kA1 kA2 kA3 kB0 kB1 kB2 kB3
 clear S1
 have LX := hid QQ.out.size
 have q8 := newA w7 (.cells #[.int .u64 0, .int .u64 0, .int .u64 0, .int .u64 0] 24)
 have HXt := Has.new w7 24 #[.int .u64 0, .int .u64 0, .int .u64 0, .int .u64 0]
 try simp only [World.size_alloc] at HXt
 have HX := hid HXt
 clear HXt
 replace HTB := hid (HTB.out.later q8)
 replace HA := hid (HA.out.later q8)
 replace HB := hid (HB.out.later q8)
 replace HM := hid (HM.out.later q8)
 replace QQ := hid (QQ.out.trans (q8.mono QQ.out.size))
 clear q8
 have kA0 := HA.out.cell 0 _ rfl
 have kA1 := HA.out.cell 1 _ rfl
 have kA2 := HA.out.cell 2 _ rfl
 have kA3 := HA.out.cell 3 _ rfl
 have kB0 := HB.out.cell 0 _ rfl
 have kB1 := HB.out.cell 1 _ rfl
 have kB2 := HB.out.cell 2 _ rfl
 have kB3 := HB.out.cell 3 _ rfl
 have q9 := (Below.refl (w7.alloc (.cells #[.int .u64 0, .int .u64 0, .int .u64 0, .int .u64 0] 24)).heap.size (w7.alloc (.cells #[.int .u64 0, .int .u64 0, .int .u64 0, .int .u64 0] 24))).alloc (Nat.le_refl _) (.cells #[.int .u64 0, .int .u64 0, .int .u64 0, .int .u64 0, .int .u64 (lim b 0), .int .u64 (lim b 1), .int .u64 (lim b 2), .int .u64 (lim b 3), .int .u64 (lim a 0), .int .u64 (lim a 1), .int .u64 (lim a 2), .int .u64 (lim a 3)] 24)
 have S2t := made_ofC (w7.alloc (.cells #[.int .u64 0, .int .u64 0, .int .u64 0, .int .u64 0] 24)) [0, b, a] [.int .u64 0, .int .u64 0, .int .u64 0, .int .u64 0, .int .u64 (lim b 0), .int .u64 (lim b 1), .int .u64 (lim b 2), .int .u64 (lim b 3), .int .u64 (lim a 0), .int .u64 (lim a 1), .int .u64 (lim a 2), .int .u64 (lim a 3)] rfl (by simp only [List.mem_cons, List.not_mem_nil, or_false, forall_eq_or_imp, forall_eq]; exact ⟨(by unfold W256; omega), Vb.out, Va.out⟩) (by simp)
 try simp only [World.size_alloc] at S2t
 have S2 := hid S2t
 clear S2t
 replace HTB := hid (HTB.out.later q9)
 replace HA := hid (HA.out.later q9)
 replace HB := hid (HB.out.later q9)
 replace HM := hid (HM.out.later q9)
 replace HX := hid (HX.out.later q9)
 replace QQ := hid (QQ.out.trans (q9.mono QQ.out.size))
 clear q9
 go_wp2_with fail
 refine (top_is _ HTB.out _ _ _ _ (by decide) S2.out (by simp) T2.out _ zero_cells).mono ?_
 rintro _ w10 ⟨rfl, _, q⟩
 replace HTB := hid (HTB.out.later q)
 replace HA := hid (HA.out.later q)
 replace HB := hid (HB.out.later q)
 replace HM := hid (HM.out.later q)
 replace HX := hid (HX.out.later q)
 replace S2 := hid (S2.out.later q)
 replace QQ := hid (QQ.out.trans (q.mono QQ.out.size))
 clear q
 clear kA0 kA1 kA2 kA3 kB0 kB1 kB2 kB3
 clear S2
 have LY := hid QQ.out.size
 have q11 := newA w10 (.cells #[.int .u64 0, .int .u64 0, .int .u64 0, .int .u64 0] 24)
 have HYt := Has.new w10 24 #[.int .u64 0, .int .u64 0, .int .u64 0, .int .u64 0]
 try simp only [World.size_alloc] at HYt
 have HY := hid HYt
 clear HYt
 replace HTB := hid (HTB.out.later q11)
 replace HA := hid (HA.out.later q11)
 replace HB := hid (HB.out.later q11)
 replace HM := hid (HM.out.later q11)
 replace HX := hid (HX.out.later q11)
 replace QQ := hid (QQ.out.trans (q11.mono QQ.out.size))
 clear q11
 have kA0 := HA.out.cell 0 _ rfl
 have kA1 := HA.out.cell 1 _ rfl
 have kA2 := HA.out.cell 2 _ rfl
 have kA3 := HA.out.cell 3 _ rfl
 have q12 := (Below.refl (w10.alloc (.cells #[.int .u64 0, .int .u64 0, .int .u64 0, .int .u64 0] 24)).heap.size (w10.alloc (.cells #[.int .u64 0, .int .u64 0, .int .u64 0, .int .u64 0] 24))).alloc (Nat.le_refl _) (.cells #[.int .u64 2, .int .u64 0, .int .u64 0, .int .u64 0, .int .u64 (lim a 0), .int .u64 (lim a 1), .int .u64 (lim a 2), .int .u64 (lim a 3)] 24)
 have S3t := made_ofC (w10.alloc (.cells #[.int .u64 0, .int .u64 0, .int .u64 0, .int .u64 0] 24)) [2, a] [.int .u64 2, .int .u64 0, .int .u64 0, .int .u64 0, .int .u64 (lim a 0), .int .u64 (lim a 1), .int .u64 (lim a 2), .int .u64 (lim a 3)] rfl (by simp only [List.mem_cons, List.not_mem_nil, or_false, forall_eq_or_imp, forall_eq]; exact ⟨(by unfold W256; omega), Va.out⟩) (by simp)
 try simp only [World.size_alloc] at S3t
 have S3 := hid S3t
 clear S3t
 replace HTB := hid (HTB.out.later q12)
 replace HA := hid (HA.out.later q12)
 replace HB := hid (HB.out.later q12)
 replace HM := hid (HM.out.later q12)
 replace HX := hid (HX.out.later q12)
 replace HY := hid (HY.out.later q12)
 replace QQ := hid (QQ.out.trans (q12.mono QQ.out.size))
 clear q12
 go_wp2_with fail
 refine (top_is _ HTB.out _ _ _ _ (by decide) S3.out (by simp) T3.out (.agg #[.int .u64 (lim e 0), .int .u64 (lim e 1), .int .u64 (lim e 2), .int .u64 (lim e 3)]) rfl).mono ?_
 rintro _ w13 ⟨rfl, hv, q⟩
 replace HTB := hid (HTB.out.later q)
 replace HA := hid (HA.out.later q)
 replace HB := hid (HB.out.later q)
 replace HM := hid (HM.out.later q)
 replace HX := hid (HX.out.later q)
 replace HY := hid (HY.out.later q)
 replace S3 := hid (S3.out.later q)
 replace QQ := hid (QQ.out.trans (q.mono QQ.out.size))
 clear q
 have Ve := hid hv
 clear hv
 clear kA0 kA1 kA2 kA3
 clear S3
 have ZZ := Has.new w13 24 #[.int .u64 0, .int .u64 0, .int .u64 0, .int .u64 0]
 try simp only [World.size_alloc] at ZZ
 have zZ0 := ZZ.cell 0 _ rfl
 have yZ0 := ZZ.frozen 0
 have zZ1 := ZZ.cell 1 _ rfl
 have yZ1 := ZZ.frozen 1
 have zZ2 := ZZ.cell 2 _ rfl
 have yZ2 := ZZ.frozen 2
 have zZ3 := ZZ.cell 3 _ rfl
 have yZ3 := ZZ.frozen 3
 clear ZZ
 have LZ := hid QQ.out.size
 have q14 := newA w13 (.cells #[.int .u64 (lim e 0), .int .u64 (lim e 1), .int .u64 (lim e 2), .int .u64 (lim e 3)] 24)
 have HZt := Has.new w13 24 #[.int .u64 (lim e 0), .int .u64 (lim e 1), .int .u64 (lim e 2), .int .u64 (lim e 3)]
 try simp only [World.size_alloc] at HZt
 have HZ := hid HZt
 clear HZt
 replace HTB := hid (HTB.out.later q14)
 replace HA := hid (HA.out.later q14)
 replace HB := hid (HB.out.later q14)
 replace HM := hid (HM.out.later q14)
 replace HX := hid (HX.out.later q14)
 replace HY := hid (HY.out.later q14)
 replace QQ := hid (QQ.out.trans (q14.mono QQ.out.size))
 clear q14
 have kA0 := HA.out.cell 0 _ rfl
 have kA1 := HA.out.cell 1 _ rfl
 have kA2 := HA.out.cell 2 _ rfl
 have kA3 := HA.out.cell 3 _ rfl
 have q15 := (Below.refl (w13.alloc (.cells #[.int .u64 (lim e 0), .int .u64 (lim e 1), .int .u64 (lim e 2), .int .u64 (lim e 3)] 24)).heap.size (w13.alloc (.cells #[.int .u64 (lim e 0), .int .u64 (lim e 1), .int .u64 (lim e 2), .int .u64 (lim e 3)] 24))).alloc (Nat.le_refl _) (.cells #[.int .u64 (lim a 0), .int .u64 (lim a 1), .int .u64 (lim a 2), .int .u64 (lim a 3), .int .u64 (lim a 0), .int .u64 (lim a 1), .int .u64 (lim a 2), .int .u64 (lim a 3)] 24)
 have S4t := made_ofC (w13.alloc (.cells #[.int .u64 (lim e 0), .int .u64 (lim e 1), .int .u64 (lim e 2), .int .u64 (lim e 3)] 24)) [a, a] [.int .u64 (lim a 0), .int .u64 (lim a 1), .int .u64 (lim a 2), .int .u64 (lim a 3), .int .u64 (lim a 0), .int .u64 (lim a 1), .int .u64 (lim a 2), .int .u64 (lim a 3)] rfl (by simp only [List.mem_cons, List.not_mem_nil, or_false, forall_eq_or_imp, forall_eq]; exact ⟨Va.out, Va.out⟩) (by simp)
 try simp only [World.size_alloc] at S4t
 have S4 := hid S4t
 clear S4t
 replace HTB := hid (HTB.out.later q15)
 replace HA := hid (HA.out.later q15)
 replace HB := hid (HB.out.later q15)
 replace HM := hid (HM.out.later q15)
 replace HX := hid (HX.out.later q15)
 replace HY := hid (HY.out.later q15)
 replace HZ := hid (HZ.out.later q15)
 replace QQ := hid (QQ.out.trans (q15.mono QQ.out.size))
 clear q15
 go_wp2_with fail
 refine (top_is _ HTB.out _ _ _ _ (by decide) S4.out (by simp) T4.out (.agg #[.int .u64 (lim e 0), .int .u64 (lim e 1), .int .u64 (lim e 2), .int .u64 (lim e 3)]) rfl).mono ?_
 rintro _ w16 ⟨rfl, hv, q⟩
 replace HTB := hid (HTB.out.later q)
 replace HA := hid (HA.out.later q)
 replace HB := hid (HB.out.later q)
 replace HM := hid (HM.out.later q)
 replace HX := hid (HX.out.later q)
 replace HY := hid (HY.out.later q)
 replace HZ := hid (HZ.out.later q)
 replace S4 := hid (S4.out.later q)
 replace QQ := hid (QQ.out.trans (q.mono QQ.out.size))
 clear q
 clear hv
 clear zZ0 yZ0 zZ1 yZ1 zZ2 yZ2 zZ3 yZ3 kA0 kA1 kA2 kA3
 clear S4
 have ZW := Has.new w16 24 #[.int .u64 0, .int .u64 0, .int .u64 0, .int .u64 0]
 try simp only [World.size_alloc] at ZW
 have zW0 := ZW.cell 0 _ rfl
 have yW0 := ZW.frozen 0
 have zW1 := ZW.cell 1 _ rfl
 have yW1 := ZW.frozen 1
 have zW2 := ZW.cell 2 _ rfl
 have yW2 := ZW.frozen 2
 have zW3 := ZW.cell 3 _ rfl
 have yW3 := ZW.frozen 3
 clear ZW
 have LW := hid QQ.out.size
 have q17 := newA w16 (.cells #[.int .u64 (lim e 0), .int .u64 (lim e 1), .int .u64 (lim e 2), .int .u64 (lim e 3)] 24)
 have HWt := Has.new w16 24 #[.int .u64 (lim e 0), .int .u64 (lim e 1), .int .u64 (lim e 2), .int .u64 (lim e 3)]
 try simp only [World.size_alloc] at HWt
 have HW := hid HWt
 clear HWt
 replace HTB := hid (HTB.out.later q17)
 replace HA := hid (HA.out.later q17)
 replace HB := hid (HB.out.later q17)
 replace HM := hid (HM.out.later q17)
 replace HX := hid (HX.out.later q17)
 replace HY := hid (HY.out.later q17)
 replace HZ := hid (HZ.out.later q17)
 replace QQ := hid (QQ.out.trans (q17.mono QQ.out.size))
 clear q17
 have kA0 := HA.out.cell 0 _ rfl
 have kA1 := HA.out.cell 1 _ rfl
 have kA2 := HA.out.cell 2 _ rfl
 have kA3 := HA.out.cell 3 _ rfl
 have kB0 := HB.out.cell 0 _ rfl
 have kB1 := HB.out.cell 1 _ rfl
 have kB2 := HB.out.cell 2 _ rfl
 have kB3 := HB.out.cell 3 _ rfl
 have kM0 := HM.out.cell 0 _ rfl
 have kM1 := HM.out.cell 1 _ rfl
 have kM2 := HM.out.cell 2 _ rfl
 have kM3 := HM.out.cell 3 _ rfl
 have q18 := (Below.refl (w16.alloc (.cells #[.int .u64 (lim e 0), .int .u64 (lim e 1), .int .u64 (lim e 2), .int .u64 (lim e 3)] 24)).heap.size (w16.alloc (.cells #[.int .u64 (lim e 0), .int .u64 (lim e 1), .int .u64 (lim e 2), .int .u64 (lim e 3)] 24))).alloc (Nat.le_refl _) (.cells #[.int .u64 18446744073709551615, .int .u64 18446744073709551615, .int .u64 18446744073709551615, .int .u64 18446744073709551615, .int .u64 (lim b 0), .int .u64 (lim b 1), .int .u64 (lim b 2), .int .u64 (lim b 3), .int .u64 (lim a 0), .int .u64 (lim a 1), .int .u64 (lim a 2), .int .u64 (lim a 3)] 24)
 have S5t := made_ofC (w16.alloc (.cells #[.int .u64 (lim e 0), .int .u64 (lim e 1), .int .u64 (lim e 2), .int .u64 (lim e 3)] 24)) [M1, b, a] [.int .u64 18446744073709551615, .int .u64 18446744073709551615, .int .u64 18446744073709551615, .int .u64 18446744073709551615, .int .u64 (lim b 0), .int .u64 (lim b 1), .int .u64 (lim b 2), .int .u64 (lim b 3), .int .u64 (lim a 0), .int .u64 (lim a 1), .int .u64 (lim a 2), .int .u64 (lim a 3)] rfl (by simp only [List.mem_cons, List.not_mem_nil, or_false, forall_eq_or_imp, forall_eq]; exact ⟨M1_lt, Vb.out, Va.out⟩) (by simp)
 try simp only [World.size_alloc] at S5t
 have S5 := hid S5t
 clear S5t
 replace HTB := hid (HTB.out.later q18)
 replace HA := hid (HA.out.later q18)
 replace HB := hid (HB.out.later q18)
 replace HM := hid (HM.out.later q18)
 replace HX := hid (HX.out.later q18)
 replace HY := hid (HY.out.later q18)
 replace HZ := hid (HZ.out.later q18)
 replace HW := hid (HW.out.later q18)
 replace QQ := hid (QQ.out.trans (q18.mono QQ.out.size))
 clear q18
 go_wp2_with fail
 refine (top_is _ HTB.out _ _ _ _ (by decide) S5.out (by simp) T5.out (.agg #[.int .u64 (lim want 0), .int .u64 (lim want 1), .int .u64 (lim want 2), .int .u64 (lim want 3)]) rfl).mono ?_
 rintro _ w19 ⟨rfl, hv, q⟩
 replace HTB := hid (HTB.out.later q)
 replace HA := hid (HA.out.later q)
 replace HB := hid (HB.out.later q)
 replace HM := hid (HM.out.later q)
 replace HX := hid (HX.out.later q)
 replace HY := hid (HY.out.later q)
 replace HZ := hid (HZ.out.later q)
 replace HW := hid (HW.out.later q)
 replace S5 := hid (S5.out.later q)
 replace QQ := hid (QQ.out.trans (q.mono QQ.out.size))
 clear q
 have Vwant := hid hv
 clear hv
 clear zW0 yW0 zW1 yW1 zW2 yW2 zW3 yW3 kA0 kA1 kA2 kA3 kB0 kB1 kB2 kB3 kM0 kM1 kM2 kM3
 clear S5
 have ZMm := Has.new w19 24 #[.int .u64 0, .int .u64 0, .int .u64 0, .int .u64 0]
 try simp only [World.size_alloc] at ZMm
 have zMm0 := ZMm.cell 0 _ rfl
 have yMm0 := ZMm.frozen 0
 have zMm1 := ZMm.cell 1 _ rfl
 have yMm1 := ZMm.frozen 1
 have zMm2 := ZMm.cell 2 _ rfl
 have yMm2 := ZMm.frozen 2
 have zMm3 := ZMm.cell 3 _ rfl
 have yMm3 := ZMm.frozen 3
 clear ZMm
 have LMm := hid QQ.out.size
 have q20 := newA w19 (.cells #[.int .u64 (lim want 0), .int .u64 (lim want 1), .int .u64 (lim want 2), .int .u64 (lim want 3)] 24)
 have HMmt := Has.new w19 24 #[.int .u64 (lim want 0), .int .u64 (lim want 1), .int .u64 (lim want 2), .int .u64 (lim want 3)]
 try simp only [World.size_alloc] at HMmt
 have HMm := hid HMmt
 clear HMmt
 replace HTB := hid (HTB.out.later q20)
 replace HA := hid (HA.out.later q20)
 replace HB := hid (HB.out.later q20)
 replace HM := hid (HM.out.later q20)
 replace HX := hid (HX.out.later q20)
 replace HY := hid (HY.out.later q20)
 replace HZ := hid (HZ.out.later q20)
 replace HW := hid (HW.out.later q20)
 replace QQ := hid (QQ.out.trans (q20.mono QQ.out.size))
 clear q20
 have kA0 := HA.out.cell 0 _ rfl
 have kA1 := HA.out.cell 1 _ rfl
 have kA2 := HA.out.cell 2 _ rfl
 have kA3 := HA.out.cell 3 _ rfl
 have kB0 := HB.out.cell 0 _ rfl
 have kB1 := HB.out.cell 1 _ rfl
 have kB2 := HB.out.cell 2 _ rfl
 have kB3 := HB.out.cell 3 _ rfl
 have q21 := (Below.refl (w19.alloc (.cells #[.int .u64 (lim want 0), .int .u64 (lim want 1), .int .u64 (lim want 2), .int .u64 (lim want 3)] 24)).heap.size (w19.alloc (.cells #[.int .u64 (lim want 0), .int .u64 (lim want 1), .int .u64 (lim want 2), .int .u64 (lim want 3)] 24))).alloc (Nat.le_refl _) (.cells #[.int .u64 (lim a 0), .int .u64 (lim a 1), .int .u64 (lim a 2), .int .u64 (lim a 3), .int .u64 (lim b 0), .int .u64 (lim b 1), .int .u64 (lim b 2), .int .u64 (lim b 3)] 24)
 have S6t := made_ofC (w19.alloc (.cells #[.int .u64 (lim want 0), .int .u64 (lim want 1), .int .u64 (lim want 2), .int .u64 (lim want 3)] 24)) [a, b] [.int .u64 (lim a 0), .int .u64 (lim a 1), .int .u64 (lim a 2), .int .u64 (lim a 3), .int .u64 (lim b 0), .int .u64 (lim b 1), .int .u64 (lim b 2), .int .u64 (lim b 3)] rfl (by simp only [List.mem_cons, List.not_mem_nil, or_false, forall_eq_or_imp, forall_eq]; exact ⟨Va.out, Vb.out⟩) (by simp)
 try simp only [World.size_alloc] at S6t
 have S6 := hid S6t
 clear S6t
 replace HTB := hid (HTB.out.later q21)
 replace HA := hid (HA.out.later q21)
 replace HB := hid (HB.out.later q21)
 replace HM := hid (HM.out.later q21)
 replace HX := hid (HX.out.later q21)
 replace HY := hid (HY.out.later q21)
 replace HZ := hid (HZ.out.later q21)
 replace HW := hid (HW.out.later q21)
 replace HMm := hid (HMm.out.later q21)
 replace QQ := hid (QQ.out.trans (q21.mono QQ.out.size))
 clear q21
 go_wp2_with fail
 refine (top_is _ HTB.out _ _ _ _ (by decide) S6.out (by simp) T6.out (.agg #[.int .u64 (lim sum 0), .int .u64 (lim sum 1), .int .u64 (lim sum 2), .int .u64 (lim sum 3)]) rfl).mono ?_
 rintro _ w22 ⟨rfl, hv, q⟩
 replace HTB := hid (HTB.out.later q)
 replace HA := hid (HA.out.later q)
 replace HB := hid (HB.out.later q)
 replace HM := hid (HM.out.later q)
 replace HX := hid (HX.out.later q)
 replace HY := hid (HY.out.later q)
 replace HZ := hid (HZ.out.later q)
 replace HW := hid (HW.out.later q)
 replace HMm := hid (HMm.out.later q)
 replace S6 := hid (S6.out.later q)
 replace QQ := hid (QQ.out.trans (q.mono QQ.out.size))
 clear q
 have Vsum := hid hv
 clear hv
 clear zMm0 yMm0 zMm1 yMm1 zMm2 yMm2 zMm3 yMm3 kA0 kA1 kA2 kA3 kB0 kB1 kB2 kB3
 clear S6
 have ZS := Has.new w22 24 #[.int .u64 0, .int .u64 0, .int .u64 0, .int .u64 0]
 try simp only [World.size_alloc] at ZS
 have zS0 := ZS.cell 0 _ rfl
 have yS0 := ZS.frozen 0
 have zS1 := ZS.cell 1 _ rfl
 have yS1 := ZS.frozen 1
 have zS2 := ZS.cell 2 _ rfl
 have yS2 := ZS.frozen 2
 have zS3 := ZS.cell 3 _ rfl
 have yS3 := ZS.frozen 3
 clear ZS
 have LS := hid QQ.out.size
 have q23 := newA w22 (.cells #[.int .u64 (lim sum 0), .int .u64 (lim sum 1), .int .u64 (lim sum 2), .int .u64 (lim sum 3)] 24)
 have HSt := Has.new w22 24 #[.int .u64 (lim sum 0), .int .u64 (lim sum 1), .int .u64 (lim sum 2), .int .u64 (lim sum 3)]
 try simp only [World.size_alloc] at HSt
 have HS := hid HSt
 clear HSt
 replace HTB := hid (HTB.out.later q23)
 replace HA := hid (HA.out.later q23)
 replace HB := hid (HB.out.later q23)
 replace HM := hid (HM.out.later q23)
 replace HX := hid (HX.out.later q23)
 replace HY := hid (HY.out.later q23)
 replace HZ := hid (HZ.out.later q23)
 replace HW := hid (HW.out.later q23)
 replace HMm := hid (HMm.out.later q23)
 replace QQ := hid (QQ.out.trans (q23.mono QQ.out.size))
 clear q23
 have kA0 := HA.out.cell 0 _ rfl
 have kA1 := HA.out.cell 1 _ rfl
 have kA2 := HA.out.cell 2 _ rfl
 have kA3 := HA.out.cell 3 _ rfl
 have kS0 := HS.out.cell 0 _ rfl
 have kS1 := HS.out.cell 1 _ rfl
 have kS2 := HS.out.cell 2 _ rfl
 have kS3 := HS.out.cell 3 _ rfl
 have q24 := (Below.refl (w22.alloc (.cells #[.int .u64 (lim sum 0), .int .u64 (lim sum 1), .int .u64 (lim sum 2), .int .u64 (lim sum 3)] 24)).heap.size (w22.alloc (.cells #[.int .u64 (lim sum 0), .int .u64 (lim sum 1), .int .u64 (lim sum 2), .int .u64 (lim sum 3)] 24))).alloc (Nat.le_refl _) (.cells #[.int .u64 (lim a 0), .int .u64 (lim a 1), .int .u64 (lim a 2), .int .u64 (lim a 3), .int .u64 (lim sum 0), .int .u64 (lim sum 1), .int .u64 (lim sum 2), .int .u64 (lim sum 3)] 24)
 have S7t := made_ofC (w22.alloc (.cells #[.int .u64 (lim sum 0), .int .u64 (lim sum 1), .int .u64 (lim sum 2), .int .u64 (lim sum 3)] 24)) [a, sum] [.int .u64 (lim a 0), .int .u64 (lim a 1), .int .u64 (lim a 2), .int .u64 (lim a 3), .int .u64 (lim sum 0), .int .u64 (lim sum 1), .int .u64 (lim sum 2), .int .u64 (lim sum 3)] rfl (by simp only [List.mem_cons, List.not_mem_nil, or_false, forall_eq_or_imp, forall_eq]; exact ⟨Va.out, Vsum.out⟩) (by simp)
 try simp only [World.size_alloc] at S7t
 have S7 := hid S7t
 clear S7t
 replace HTB := hid (HTB.out.later q24)
 replace HA := hid (HA.out.later q24)
 replace HB := hid (HB.out.later q24)
 replace HM := hid (HM.out.later q24)
 replace HX := hid (HX.out.later q24)
 replace HY := hid (HY.out.later q24)
 replace HZ := hid (HZ.out.later q24)
 replace HW := hid (HW.out.later q24)
 replace HMm := hid (HMm.out.later q24)
 replace HS := hid (HS.out.later q24)
 replace QQ := hid (QQ.out.trans (q24.mono QQ.out.size))
 clear q24
 go_wp2_with fail
 refine (top_is _ HTB.out _ _ _ _ (by decide) S7.out (by simp) T7.out (.agg #[.int .u64 (lim less 0), .int .u64 (lim less 1), .int .u64 (lim less 2), .int .u64 (lim less 3)]) rfl).mono ?_
 rintro _ w25 ⟨rfl, hv, q⟩
 replace HTB := hid (HTB.out.later q)
 replace HA := hid (HA.out.later q)
 replace HB := hid (HB.out.later q)
 replace HM := hid (HM.out.later q)
 replace HX := hid (HX.out.later q)
 replace HY := hid (HY.out.later q)
 replace HZ := hid (HZ.out.later q)
 replace HW := hid (HW.out.later q)
 replace HMm := hid (HMm.out.later q)
 replace HS := hid (HS.out.later q)
 replace S7 := hid (S7.out.later q)
 replace QQ := hid (QQ.out.trans (q.mono QQ.out.size))
 clear q
 have Vless := hid hv
 clear hv
 clear zS0 yS0 zS1 yS1 zS2 yS2 zS3 yS3 kA0 kA1 kA2 kA3 kS0 kS1 kS2 kS3
 clear S7
 have ZL := Has.new w25 24 #[.int .u64 0, .int .u64 0, .int .u64 0, .int .u64 0]
 try simp only [World.size_alloc] at ZL
 have zL0 := ZL.cell 0 _ rfl
 have yL0 := ZL.frozen 0
 have zL1 := ZL.cell 1 _ rfl
 have yL1 := ZL.frozen 1
 have zL2 := ZL.cell 2 _ rfl
 have yL2 := ZL.frozen 2
 have zL3 := ZL.cell 3 _ rfl
 have yL3 := ZL.frozen 3
 clear ZL
 have LL := hid QQ.out.size
 have q26 := newA w25 (.cells #[.int .u64 (lim less 0), .int .u64 (lim less 1), .int .u64 (lim less 2), .int .u64 (lim less 3)] 24)
 have HLt := Has.new w25 24 #[.int .u64 (lim less 0), .int .u64 (lim less 1), .int .u64 (lim less 2), .int .u64 (lim less 3)]
 try simp only [World.size_alloc] at HLt
 have HL := hid HLt
 clear HLt
 replace HTB := hid (HTB.out.later q26)
 replace HA := hid (HA.out.later q26)
 replace HB := hid (HB.out.later q26)
 replace HM := hid (HM.out.later q26)
 replace HX := hid (HX.out.later q26)
 replace HY := hid (HY.out.later q26)
 replace HZ := hid (HZ.out.later q26)
 replace HW := hid (HW.out.later q26)
 replace HMm := hid (HMm.out.later q26)
 replace HS := hid (HS.out.later q26)
 replace QQ := hid (QQ.out.trans (q26.mono QQ.out.size))
 clear q26
 have kL0 := HL.out.cell 0 _ rfl
 have kL1 := HL.out.cell 1 _ rfl
 have kL2 := HL.out.cell 2 _ rfl
 have kL3 := HL.out.cell 3 _ rfl
 have kS0 := HS.out.cell 0 _ rfl
 have kS1 := HS.out.cell 1 _ rfl
 have kS2 := HS.out.cell 2 _ rfl
 have kS3 := HS.out.cell 3 _ rfl
 have q27 := (Below.refl (w25.alloc (.cells #[.int .u64 (lim less 0), .int .u64 (lim less 1), .int .u64 (lim less 2), .int .u64 (lim less 3)] 24)).heap.size (w25.alloc (.cells #[.int .u64 (lim less 0), .int .u64 (lim less 1), .int .u64 (lim less 2), .int .u64 (lim less 3)] 24))).alloc (Nat.le_refl _) (.cells #[.int .u64 (lim sum 0), .int .u64 (lim sum 1), .int .u64 (lim sum 2), .int .u64 (lim sum 3), .int .u64 (lim less 0), .int .u64 (lim less 1), .int .u64 (lim less 2), .int .u64 (lim less 3)] 24)
 have S8t := made_ofC (w25.alloc (.cells #[.int .u64 (lim less 0), .int .u64 (lim less 1), .int .u64 (lim less 2), .int .u64 (lim less 3)] 24)) [sum, less] [.int .u64 (lim sum 0), .int .u64 (lim sum 1), .int .u64 (lim sum 2), .int .u64 (lim sum 3), .int .u64 (lim less 0), .int .u64 (lim less 1), .int .u64 (lim less 2), .int .u64 (lim less 3)] rfl (by simp only [List.mem_cons, List.not_mem_nil, or_false, forall_eq_or_imp, forall_eq]; exact ⟨Vsum.out, Vless.out⟩) (by simp)
 try simp only [World.size_alloc] at S8t
 have S8 := hid S8t
 clear S8t
 replace HTB := hid (HTB.out.later q27)
 replace HA := hid (HA.out.later q27)
 replace HB := hid (HB.out.later q27)
 replace HM := hid (HM.out.later q27)
 replace HX := hid (HX.out.later q27)
 replace HY := hid (HY.out.later q27)
 replace HZ := hid (HZ.out.later q27)
 replace HW := hid (HW.out.later q27)
 replace HMm := hid (HMm.out.later q27)
 replace HS := hid (HS.out.later q27)
 replace HL := hid (HL.out.later q27)
 replace QQ := hid (QQ.out.trans (q27.mono QQ.out.size))
 clear q27
 go_wp2_with fail
 refine (top_is _ HTB.out _ _ _ _ (by decide) S8.out (by simp) T8.out (.agg #[.int .u64 (lim want 0), .int .u64 (lim want 1), .int .u64 (lim want 2), .int .u64 (lim want 3)]) rfl).mono ?_
 rintro _ w28 ⟨rfl, hv, q⟩
 replace HTB := hid (HTB.out.later q)
 replace HA := hid (HA.out.later q)
 replace HB := hid (HB.out.later q)
 replace HM := hid (HM.out.later q)
 replace HX := hid (HX.out.later q)
 replace HY := hid (HY.out.later q)
 replace HZ := hid (HZ.out.later q)
 replace HW := hid (HW.out.later q)
 replace HMm := hid (HMm.out.later q)
 replace HS := hid (HS.out.later q)
 replace HL := hid (HL.out.later q)
 replace S8 := hid (S8.out.later q)
 replace QQ := hid (QQ.out.trans (q.mono QQ.out.size))
 clear q
 clear hv
 clear zL0 yL0 zL1 yL1 zL2 yL2 zL3 yL3 kL0 kL1 kL2 kL3 kS0 kS1 kS2 kS3
 clear S8
 have ZWa := Has.new w28 24 #[.int .u64 0, .int .u64 0, .int .u64 0, .int .u64 0]
 try simp only [World.size_alloc] at ZWa
 have zWa0 := ZWa.cell 0 _ rfl
 have yWa0 := ZWa.frozen 0
 have zWa1 := ZWa.cell 1 _ rfl
 have yWa1 := ZWa.frozen 1
 have zWa2 := ZWa.cell 2 _ rfl
 have yWa2 := ZWa.frozen 2
 have zWa3 := ZWa.cell 3 _ rfl
 have yWa3 := ZWa.frozen 3
 clear ZWa
 have LWa := hid QQ.out.size
 have q29 := newA w28 (.cells #[.int .u64 (lim want 0), .int .u64 (lim want 1), .int .u64 (lim want 2), .int .u64 (lim want 3)] 24)
 have HWat := Has.new w28 24 #[.int .u64 (lim want 0), .int .u64 (lim want 1), .int .u64 (lim want 2), .int .u64 (lim want 3)]
 try simp only [World.size_alloc] at HWat
 have HWa := hid HWat
 clear HWat
 replace HTB := hid (HTB.out.later q29)
 replace HA := hid (HA.out.later q29)
 replace HB := hid (HB.out.later q29)
 replace HM := hid (HM.out.later q29)
 replace HX := hid (HX.out.later q29)
 replace HY := hid (HY.out.later q29)
 replace HZ := hid (HZ.out.later q29)
 replace HW := hid (HW.out.later q29)
 replace HMm := hid (HMm.out.later q29)
 replace HS := hid (HS.out.later q29)
 replace HL := hid (HL.out.later q29)
 replace QQ := hid (QQ.out.trans (q29.mono QQ.out.size))
 clear q29
 have kX0 := HX.out.cell 0 _ rfl
 have kX1 := HX.out.cell 1 _ rfl
 have kX2 := HX.out.cell 2 _ rfl
 have kX3 := HX.out.cell 3 _ rfl
 have kY0 := HY.out.cell 0 _ rfl
 have kY1 := HY.out.cell 1 _ rfl
 have kY2 := HY.out.cell 2 _ rfl
 have kY3 := HY.out.cell 3 _ rfl
 have kZ0 := HZ.out.cell 0 _ rfl
 have kZ1 := HZ.out.cell 1 _ rfl
 have kZ2 := HZ.out.cell 2 _ rfl
 have kZ3 := HZ.out.cell 3 _ rfl
 have kW0 := HW.out.cell 0 _ rfl
 have kW1 := HW.out.cell 1 _ rfl
 have kW2 := HW.out.cell 2 _ rfl
 have kW3 := HW.out.cell 3 _ rfl
 have kMm0 := HMm.out.cell 0 _ rfl
 have kMm1 := HMm.out.cell 1 _ rfl
 have kMm2 := HMm.out.cell 2 _ rfl
 have kMm3 := HMm.out.cell 3 _ rfl
 have kM0 := HM.out.cell 0 _ rfl
 have kM1 := HM.out.cell 1 _ rfl
 have kM2 := HM.out.cell 2 _ rfl
 have kM3 := HM.out.cell 3 _ rfl
 have kWa0 := HWa.out.cell 0 _ rfl
 have kWa1 := HWa.out.cell 1 _ rfl
 have kWa2 := HWa.out.cell 2 _ rfl
 have kWa3 := HWa.out.cell 3 _ rfl
 have hne := HNE.out
 go_wp2
 go_ret
 exact ⟨rfl, QQ.out⟩
theorem mods_b (W : World) (hT : Tab W) (a b e sum less _want : Nat) (ha : W256 a) (hb : W256 b) (h1 : TopIs 8 [0, b, a] 0) (h2 : TopIs 9 [0, b, a] 0) (h3 : TopIs 10 [2, a] e) (h4 : TopIs 2 [a, a] e) (h5 : TopIs 8 [M1, b, a] 0)
  (h6 : TopIs 1 [a, b] sum) (h7 : TopIs 16 [a, sum] less) (h8 : TopIs 1 [sum, less] M1) :
  Calls Tryz.prog 7 #[wv a, wv b] W fun e w' => e = .returned (.bool true) ∧ Below W.heap.size W w' := by
 have HTB := hid hT
 have Va := hid ha
 have Vb := hid hb
 have OM := hid ofC_m1
 have T1 := hid h1
 have T2 := hid h2
 have T3 := hid h3
 have T4 := hid h4
 have T5 := hid h5
 have T6 := hid h6
 have T7 := hid h7
 have T8 := hid h8
 clear hT ha hb h1 h2 h3 h4 h5 h6 h7 h8
 unfold wv
 go_enter Tryz.func7, Tryz.ntmps7
 have q1 := newA W (.cells #[.int .u64 (lim a 0), .int .u64 (lim a 1), .int .u64 (lim a 2), .int .u64 (lim a 3)] 24)
 have HAt := Has.new W 24 #[.int .u64 (lim a 0), .int .u64 (lim a 1), .int .u64 (lim a 2), .int .u64 (lim a 3)]
 try simp only [World.size_alloc] at HAt
 have HA := hid HAt
 clear HAt
 replace HTB := hid (HTB.out.later q1)
 have QQ := hid q1
 clear q1
 have LB := hid QQ.out.size
 have q2 := (Below.refl (W.alloc (.cells #[.int .u64 (lim a 0), .int .u64 (lim a 1), .int .u64 (lim a 2), .int .u64 (lim a 3)] 24)).heap.size (W.alloc (.cells #[.int .u64 (lim a 0), .int .u64 (lim a 1), .int .u64 (lim a 2), .int .u64 (lim a 3)] 24))).alloc (Nat.le_refl _) (.cells #[.int .u64 (lim b 0), .int .u64 (lim b 1), .int .u64 (lim b 2), .int .u64 (lim b 3)] 24)
 have HBt := Has.new (W.alloc (.cells #[.int .u64 (lim a 0), .int .u64 (lim a 1), .int .u64 (lim a 2), .int .u64 (lim a 3)] 24)) 24 #[.int .u64 (lim b 0), .int .u64 (lim b 1), .int .u64 (lim b 2), .int .u64 (lim b 3)]
 try simp only [World.size_alloc] at HBt
 have HB := hid HBt
 clear HBt
 replace HTB := hid (HTB.out.later q2)
 replace HA := hid (HA.out.later q2)
 replace QQ := hid (QQ.out.trans (q2.mono QQ.out.size))
 clear q2
 go_wp2_with fail
 refine (awake_any _ HTB.out).mono ?_
 rintro _ w3 ⟨rfl, q⟩
 replace HTB := hid (HTB.out.later q)
 replace HA := hid (HA.out.later q)
 replace HB := hid (HB.out.later q)
 replace QQ := hid (QQ.out.trans (q.mono QQ.out.size))
 clear q
 go_wp2_with fail
 refine (OM.out _).mono ?_
 rintro _ w4 ⟨rfl, q4⟩
 replace HTB := hid (HTB.out.later q4)
 replace HA := hid (HA.out.later q4)
 replace HB := hid (HB.out.later q4)
 replace QQ := hid (QQ.out.trans (q4.mono QQ.out.size))
 clear q4
 have ZM := Has.new w4 24 #[.int .u64 0, .int .u64 0, .int .u64 0, .int .u64 0]
 try simp only [World.size_alloc] at ZM
 have zM0 := ZM.cell 0 _ rfl
 have yM0 := ZM.frozen 0
 have zM1 := ZM.cell 1 _ rfl
 have yM1 := ZM.frozen 1
 have zM2 := ZM.cell 2 _ rfl
 have yM2 := ZM.frozen 2
 have zM3 := ZM.cell 3 _ rfl
 have yM3 := ZM.frozen 3
 clear ZM
 have LM := hid QQ.out.size
 have q5 := newA w4 (.cells #[.int .u64 18446744073709551615, .int .u64 18446744073709551615, .int .u64 18446744073709551615, .int .u64 18446744073709551615] 24)
 have HMt := Has.new w4 24 #[.int .u64 18446744073709551615, .int .u64 18446744073709551615, .int .u64 18446744073709551615, .int .u64 18446744073709551615]
 try simp only [World.size_alloc] at HMt
 have HM := hid HMt
 clear HMt
 replace HTB := hid (HTB.out.later q5)
 replace HA := hid (HA.out.later q5)
 replace HB := hid (HB.out.later q5)
 replace QQ := hid (QQ.out.trans (q5.mono QQ.out.size))
 clear q5
 have kA0 := HA.out.cell 0 _ rfl
 have kA1 := HA.out.cell 1 _ rfl
 have kA2 := HA.out.cell 2 _ rfl
 have kA3 := HA.out.cell 3 _ rfl
 have kB0 := HB.out.cell 0 _ rfl
 have kB1 := HB.out.cell 1 _ rfl
 have kB2 := HB.out.cell 2 _ rfl
 have kB3 := HB.out.cell 3 _ rfl
 have q6 := (Below.refl (w4.alloc (.cells #[.int .u64 18446744073709551615, .int .u64 18446744073709551615, .int .u64 18446744073709551615, .int .u64 18446744073709551615] 24)).heap.size (w4.alloc (.cells #[.int .u64 18446744073709551615, .int .u64 18446744073709551615, .int .u64 18446744073709551615, .int .u64 18446744073709551615] 24))).alloc (Nat.le_refl _) (.cells #[.int .u64 0, .int .u64 0, .int .u64 0, .int .u64 0, .int .u64 (lim b 0), .int .u64 (lim b 1), .int .u64 (lim b 2), .int .u64 (lim b 3), .int .u64 (lim a 0), .int .u64 (lim a 1), .int .u64 (lim a 2), .int .u64 (lim a 3)] 24)
 have S1t := made_ofC (w4.alloc (.cells #[.int .u64 18446744073709551615, .int .u64 18446744073709551615, .int .u64 18446744073709551615, .int .u64 18446744073709551615] 24)) [0, b, a] [.int .u64 0, .int .u64 0, .int .u64 0, .int .u64 0, .int .u64 (lim b 0), .int .u64 (lim b 1), .int .u64 (lim b 2), .int .u64 (lim b 3), .int .u64 (lim a 0), .int .u64 (lim a 1), .int .u64 (lim a 2), .int .u64 (lim a 3)] rfl (by simp only [List.mem_cons, List.not_mem_nil, or_false, forall_eq_or_imp, forall_eq]; exact ⟨(by unfold W256; omega), Vb.out, Va.out⟩) (by simp)
 try simp only [World.size_alloc] at S1t
 have S1 := hid S1t
 clear S1t
 replace HTB := hid (HTB.out.later q6)
 replace HA := hid (HA.out.later q6)
 replace HB := hid (HB.out.later q6)
 replace HM := hid (HM.out.later q6)
 replace QQ := hid (QQ.out.trans (q6.mono QQ.out.size))
 clear q6
 go_wp2_with fail
 refine (top_is _ HTB.out _ _ _ _ (by decide) S1.out (by simp) T1.out _ zero_cells).mono ?_
 rintro _ w7 ⟨rfl, _, q⟩
 replace HTB := hid (HTB.out.later q)
 replace HA := hid (HA.out.later q)
 replace HB := hid (HB.out.later q)
 replace HM := hid (HM.out.later q)
 replace S1 := hid (S1.out.later q)
 replace QQ := hid (QQ.out.trans (q.mono QQ.out.size))
 clear q
 clear zM0 yM0 zM1 yM1 zM2 yM2 zM3 yM3 kA0 kA1 kA2 kA3 kB0 kB1 kB2 kB3
 clear S1
 have LX := hid QQ.out.size
 have q8 := newA w7 (.cells #[.int .u64 0, .int .u64 0, .int .u64 0, .int .u64 0] 24)
 have HXt := Has.new w7 24 #[.int .u64 0, .int .u64 0, .int .u64 0, .int .u64 0]
 try simp only [World.size_alloc] at HXt
 have HX := hid HXt
 clear HXt
 replace HTB := hid (HTB.out.later q8)
 replace HA := hid (HA.out.later q8)
 replace HB := hid (HB.out.later q8)
 replace HM := hid (HM.out.later q8)
 replace QQ := hid (QQ.out.trans (q8.mono QQ.out.size))
 clear q8
 have kA0 := HA.out.cell 0 _ rfl
 have kA1 := HA.out.cell 1 _ rfl
 have kA2 := HA.out.cell 2 _ rfl
 have kA3 := HA.out.cell 3 _ rfl
 have kB0 := HB.out.cell 0 _ rfl
 have kB1 := HB.out.cell 1 _ rfl
 have kB2 := HB.out.cell 2 _ rfl
 have kB3 := HB.out.cell 3 _ rfl
 have q9 := (Below.refl (w7.alloc (.cells #[.int .u64 0, .int .u64 0, .int .u64 0, .int .u64 0] 24)).heap.size (w7.alloc (.cells #[.int .u64 0, .int .u64 0, .int .u64 0, .int .u64 0] 24))).alloc (Nat.le_refl _) (.cells #[.int .u64 0, .int .u64 0, .int .u64 0, .int .u64 0, .int .u64 (lim b 0), .int .u64 (lim b 1), .int .u64 (lim b 2), .int .u64 (lim b 3), .int .u64 (lim a 0), .int .u64 (lim a 1), .int .u64 (lim a 2), .int .u64 (lim a 3)] 24)
 have S2t := made_ofC (w7.alloc (.cells #[.int .u64 0, .int .u64 0, .int .u64 0, .int .u64 0] 24)) [0, b, a] [.int .u64 0, .int .u64 0, .int .u64 0, .int .u64 0, .int .u64 (lim b 0), .int .u64 (lim b 1), .int .u64 (lim b 2), .int .u64 (lim b 3), .int .u64 (lim a 0), .int .u64 (lim a 1), .int .u64 (lim a 2), .int .u64 (lim a 3)] rfl (by simp only [List.mem_cons, List.not_mem_nil, or_false, forall_eq_or_imp, forall_eq]; exact ⟨(by unfold W256; omega), Vb.out, Va.out⟩) (by simp)
 try simp only [World.size_alloc] at S2t
 have S2 := hid S2t
 clear S2t
 replace HTB := hid (HTB.out.later q9)
 replace HA := hid (HA.out.later q9)
 replace HB := hid (HB.out.later q9)
 replace HM := hid (HM.out.later q9)
 replace HX := hid (HX.out.later q9)
 replace QQ := hid (QQ.out.trans (q9.mono QQ.out.size))
 clear q9
 go_wp2_with fail
 refine (top_is _ HTB.out _ _ _ _ (by decide) S2.out (by simp) T2.out _ zero_cells).mono ?_
 rintro _ w10 ⟨rfl, _, q⟩
 replace HTB := hid (HTB.out.later q)
 replace HA := hid (HA.out.later q)
 replace HB := hid (HB.out.later q)
 replace HM := hid (HM.out.later q)
 replace HX := hid (HX.out.later q)
 replace S2 := hid (S2.out.later q)
 replace QQ := hid (QQ.out.trans (q.mono QQ.out.size))
 clear q
 clear kA0 kA1 kA2 kA3 kB0 kB1 kB2 kB3
 clear S2
 have LY := hid QQ.out.size
 have q11 := newA w10 (.cells #[.int .u64 0, .int .u64 0, .int .u64 0, .int .u64 0] 24)
 have HYt := Has.new w10 24 #[.int .u64 0, .int .u64 0, .int .u64 0, .int .u64 0]
 try simp only [World.size_alloc] at HYt
 have HY := hid HYt
 clear HYt
 replace HTB := hid (HTB.out.later q11)
 replace HA := hid (HA.out.later q11)
 replace HB := hid (HB.out.later q11)
 replace HM := hid (HM.out.later q11)
 replace HX := hid (HX.out.later q11)
 replace QQ := hid (QQ.out.trans (q11.mono QQ.out.size))
 clear q11
 have kA0 := HA.out.cell 0 _ rfl
 have kA1 := HA.out.cell 1 _ rfl
 have kA2 := HA.out.cell 2 _ rfl
 have kA3 := HA.out.cell 3 _ rfl
 have q12 := (Below.refl (w10.alloc (.cells #[.int .u64 0, .int .u64 0, .int .u64 0, .int .u64 0] 24)).heap.size (w10.alloc (.cells #[.int .u64 0, .int .u64 0, .int .u64 0, .int .u64 0] 24))).alloc (Nat.le_refl _) (.cells #[.int .u64 2, .int .u64 0, .int .u64 0, .int .u64 0, .int .u64 (lim a 0), .int .u64 (lim a 1), .int .u64 (lim a 2), .int .u64 (lim a 3)] 24)
 have S3t := made_ofC (w10.alloc (.cells #[.int .u64 0, .int .u64 0, .int .u64 0, .int .u64 0] 24)) [2, a] [.int .u64 2, .int .u64 0, .int .u64 0, .int .u64 0, .int .u64 (lim a 0), .int .u64 (lim a 1), .int .u64 (lim a 2), .int .u64 (lim a 3)] rfl (by simp only [List.mem_cons, List.not_mem_nil, or_false, forall_eq_or_imp, forall_eq]; exact ⟨(by unfold W256; omega), Va.out⟩) (by simp)
 try simp only [World.size_alloc] at S3t
 have S3 := hid S3t
 clear S3t
 replace HTB := hid (HTB.out.later q12)
 replace HA := hid (HA.out.later q12)
 replace HB := hid (HB.out.later q12)
 replace HM := hid (HM.out.later q12)
 replace HX := hid (HX.out.later q12)
 replace HY := hid (HY.out.later q12)
 replace QQ := hid (QQ.out.trans (q12.mono QQ.out.size))
 clear q12
 go_wp2_with fail
 refine (top_is _ HTB.out _ _ _ _ (by decide) S3.out (by simp) T3.out (.agg #[.int .u64 (lim e 0), .int .u64 (lim e 1), .int .u64 (lim e 2), .int .u64 (lim e 3)]) rfl).mono ?_
 rintro _ w13 ⟨rfl, hv, q⟩
 replace HTB := hid (HTB.out.later q)
 replace HA := hid (HA.out.later q)
 replace HB := hid (HB.out.later q)
 replace HM := hid (HM.out.later q)
 replace HX := hid (HX.out.later q)
 replace HY := hid (HY.out.later q)
 replace S3 := hid (S3.out.later q)
 replace QQ := hid (QQ.out.trans (q.mono QQ.out.size))
 clear q
 have Ve := hid hv
 clear hv
 clear kA0 kA1 kA2 kA3
 clear S3
 have ZZ := Has.new w13 24 #[.int .u64 0, .int .u64 0, .int .u64 0, .int .u64 0]
 try simp only [World.size_alloc] at ZZ
 have zZ0 := ZZ.cell 0 _ rfl
 have yZ0 := ZZ.frozen 0
 have zZ1 := ZZ.cell 1 _ rfl
 have yZ1 := ZZ.frozen 1
 have zZ2 := ZZ.cell 2 _ rfl
 have yZ2 := ZZ.frozen 2
 have zZ3 := ZZ.cell 3 _ rfl
 have yZ3 := ZZ.frozen 3
 clear ZZ
 have LZ := hid QQ.out.size
 have q14 := newA w13 (.cells #[.int .u64 (lim e 0), .int .u64 (lim e 1), .int .u64 (lim e 2), .int .u64 (lim e 3)] 24)
 have HZt := Has.new w13 24 #[.int .u64 (lim e 0), .int .u64 (lim e 1), .int .u64 (lim e 2), .int .u64 (lim e 3)]
 try simp only [World.size_alloc] at HZt
 have HZ := hid HZt
 clear HZt
 replace HTB := hid (HTB.out.later q14)
 replace HA := hid (HA.out.later q14)
 replace HB := hid (HB.out.later q14)
 replace HM := hid (HM.out.later q14)
 replace HX := hid (HX.out.later q14)
 replace HY := hid (HY.out.later q14)
 replace QQ := hid (QQ.out.trans (q14.mono QQ.out.size))
 clear q14
 have kA0 := HA.out.cell 0 _ rfl
 have kA1 := HA.out.cell 1 _ rfl
 have kA2 := HA.out.cell 2 _ rfl
 have kA3 := HA.out.cell 3 _ rfl
 have q15 := (Below.refl (w13.alloc (.cells #[.int .u64 (lim e 0), .int .u64 (lim e 1), .int .u64 (lim e 2), .int .u64 (lim e 3)] 24)).heap.size (w13.alloc (.cells #[.int .u64 (lim e 0), .int .u64 (lim e 1), .int .u64 (lim e 2), .int .u64 (lim e 3)] 24))).alloc (Nat.le_refl _) (.cells #[.int .u64 (lim a 0), .int .u64 (lim a 1), .int .u64 (lim a 2), .int .u64 (lim a 3), .int .u64 (lim a 0), .int .u64 (lim a 1), .int .u64 (lim a 2), .int .u64 (lim a 3)] 24)
 have S4t := made_ofC (w13.alloc (.cells #[.int .u64 (lim e 0), .int .u64 (lim e 1), .int .u64 (lim e 2), .int .u64 (lim e 3)] 24)) [a, a] [.int .u64 (lim a 0), .int .u64 (lim a 1), .int .u64 (lim a 2), .int .u64 (lim a 3), .int .u64 (lim a 0), .int .u64 (lim a 1), .int .u64 (lim a 2), .int .u64 (lim a 3)] rfl (by simp only [List.mem_cons, List.not_mem_nil, or_false, forall_eq_or_imp, forall_eq]; exact ⟨Va.out, Va.out⟩) (by simp)
 try simp only [World.size_alloc] at S4t
 have S4 := hid S4t
 clear S4t
 replace HTB := hid (HTB.out.later q15)
 replace HA := hid (HA.out.later q15)
 replace HB := hid (HB.out.later q15)
 replace HM := hid (HM.out.later q15)
 replace HX := hid (HX.out.later q15)
 replace HY := hid (HY.out.later q15)
 replace HZ := hid (HZ.out.later q15)
 replace QQ := hid (QQ.out.trans (q15.mono QQ.out.size))
 clear q15
 go_wp2_with fail
 refine (top_is _ HTB.out _ _ _ _ (by decide) S4.out (by simp) T4.out (.agg #[.int .u64 (lim e 0), .int .u64 (lim e 1), .int .u64 (lim e 2), .int .u64 (lim e 3)]) rfl).mono ?_
 rintro _ w16 ⟨rfl, hv, q⟩
 replace HTB := hid (HTB.out.later q)
 replace HA := hid (HA.out.later q)
 replace HB := hid (HB.out.later q)
 replace HM := hid (HM.out.later q)
 replace HX := hid (HX.out.later q)
 replace HY := hid (HY.out.later q)
 replace HZ := hid (HZ.out.later q)
 replace S4 := hid (S4.out.later q)
 replace QQ := hid (QQ.out.trans (q.mono QQ.out.size))
 clear q
 clear hv
 clear zZ0 yZ0 zZ1 yZ1 zZ2 yZ2 zZ3 yZ3 kA0 kA1 kA2 kA3
 clear S4
 have ZW := Has.new w16 24 #[.int .u64 0, .int .u64 0, .int .u64 0, .int .u64 0]
 try simp only [World.size_alloc] at ZW
 have zW0 := ZW.cell 0 _ rfl
 have yW0 := ZW.frozen 0
 have zW1 := ZW.cell 1 _ rfl
 have yW1 := ZW.frozen 1
 have zW2 := ZW.cell 2 _ rfl
 have yW2 := ZW.frozen 2
 have zW3 := ZW.cell 3 _ rfl
 have yW3 := ZW.frozen 3
 clear ZW
 have LW := hid QQ.out.size
 have q17 := newA w16 (.cells #[.int .u64 (lim e 0), .int .u64 (lim e 1), .int .u64 (lim e 2), .int .u64 (lim e 3)] 24)
 have HWt := Has.new w16 24 #[.int .u64 (lim e 0), .int .u64 (lim e 1), .int .u64 (lim e 2), .int .u64 (lim e 3)]
 try simp only [World.size_alloc] at HWt
 have HW := hid HWt
 clear HWt
 replace HTB := hid (HTB.out.later q17)
 replace HA := hid (HA.out.later q17)
 replace HB := hid (HB.out.later q17)
 replace HM := hid (HM.out.later q17)
 replace HX := hid (HX.out.later q17)
 replace HY := hid (HY.out.later q17)
 replace HZ := hid (HZ.out.later q17)
 replace QQ := hid (QQ.out.trans (q17.mono QQ.out.size))
 clear q17
 have kA0 := HA.out.cell 0 _ rfl
 have kA1 := HA.out.cell 1 _ rfl
 have kA2 := HA.out.cell 2 _ rfl
 have kA3 := HA.out.cell 3 _ rfl
 have kB0 := HB.out.cell 0 _ rfl
 have kB1 := HB.out.cell 1 _ rfl
 have kB2 := HB.out.cell 2 _ rfl
 have kB3 := HB.out.cell 3 _ rfl
 have kM0 := HM.out.cell 0 _ rfl
 have kM1 := HM.out.cell 1 _ rfl
 have kM2 := HM.out.cell 2 _ rfl
 have kM3 := HM.out.cell 3 _ rfl
 have q18 := (Below.refl (w16.alloc (.cells #[.int .u64 (lim e 0), .int .u64 (lim e 1), .int .u64 (lim e 2), .int .u64 (lim e 3)] 24)).heap.size (w16.alloc (.cells #[.int .u64 (lim e 0), .int .u64 (lim e 1), .int .u64 (lim e 2), .int .u64 (lim e 3)] 24))).alloc (Nat.le_refl _) (.cells #[.int .u64 18446744073709551615, .int .u64 18446744073709551615, .int .u64 18446744073709551615, .int .u64 18446744073709551615, .int .u64 (lim b 0), .int .u64 (lim b 1), .int .u64 (lim b 2), .int .u64 (lim b 3), .int .u64 (lim a 0), .int .u64 (lim a 1), .int .u64 (lim a 2), .int .u64 (lim a 3)] 24)
 have S5t := made_ofC (w16.alloc (.cells #[.int .u64 (lim e 0), .int .u64 (lim e 1), .int .u64 (lim e 2), .int .u64 (lim e 3)] 24)) [M1, b, a] [.int .u64 18446744073709551615, .int .u64 18446744073709551615, .int .u64 18446744073709551615, .int .u64 18446744073709551615, .int .u64 (lim b 0), .int .u64 (lim b 1), .int .u64 (lim b 2), .int .u64 (lim b 3), .int .u64 (lim a 0), .int .u64 (lim a 1), .int .u64 (lim a 2), .int .u64 (lim a 3)] rfl (by simp only [List.mem_cons, List.not_mem_nil, or_false, forall_eq_or_imp, forall_eq]; exact ⟨M1_lt, Vb.out, Va.out⟩) (by simp)
 try simp only [World.size_alloc] at S5t
 have S5 := hid S5t
 clear S5t
 replace HTB := hid (HTB.out.later q18)
 replace HA := hid (HA.out.later q18)
 replace HB := hid (HB.out.later q18)
 replace HM := hid (HM.out.later q18)
 replace HX := hid (HX.out.later q18)
 replace HY := hid (HY.out.later q18)
 replace HZ := hid (HZ.out.later q18)
 replace HW := hid (HW.out.later q18)
 replace QQ := hid (QQ.out.trans (q18.mono QQ.out.size))
 clear q18
 go_wp2_with fail
 refine (top_is _ HTB.out _ _ _ _ (by decide) S5.out (by simp) T5.out _ zero_cells).mono ?_
 rintro _ w19 ⟨rfl, _, q⟩
 replace HTB := hid (HTB.out.later q)
 replace HA := hid (HA.out.later q)
 replace HB := hid (HB.out.later q)
 replace HM := hid (HM.out.later q)
 replace HX := hid (HX.out.later q)
 replace HY := hid (HY.out.later q)
 replace HZ := hid (HZ.out.later q)
 replace HW := hid (HW.out.later q)
 replace S5 := hid (S5.out.later q)
 replace QQ := hid (QQ.out.trans (q.mono QQ.out.size))
 clear q
 clear zW0 yW0 zW1 yW1 zW2 yW2 zW3 yW3 kA0 kA1 kA2 kA3 kB0 kB1 kB2 kB3 kM0 kM1 kM2 kM3
 clear S5
 have LMm := hid QQ.out.size
 have q20 := newA w19 (.cells #[.int .u64 0, .int .u64 0, .int .u64 0, .int .u64 0] 24)
 have HMmt := Has.new w19 24 #[.int .u64 0, .int .u64 0, .int .u64 0, .int .u64 0]
 try simp only [World.size_alloc] at HMmt
 have HMm := hid HMmt
 clear HMmt
 replace HTB := hid (HTB.out.later q20)
 replace HA := hid (HA.out.later q20)
 replace HB := hid (HB.out.later q20)
 replace HM := hid (HM.out.later q20)
 replace HX := hid (HX.out.later q20)
 replace HY := hid (HY.out.later q20)
 replace HZ := hid (HZ.out.later q20)
 replace HW := hid (HW.out.later q20)
 replace QQ := hid (QQ.out.trans (q20.mono QQ.out.size))
 clear q20
 have kA0 := HA.out.cell 0 _ rfl
 have kA1 := HA.out.cell 1 _ rfl
 have kA2 := HA.out.cell 2 _ rfl
 have kA3 := HA.out.cell 3 _ rfl
 have kB0 := HB.out.cell 0 _ rfl
 have kB1 := HB.out.cell 1 _ rfl
 have kB2 := HB.out.cell 2 _ rfl
 have kB3 := HB.out.cell 3 _ rfl
 have q21 := (Below.refl (w19.alloc (.cells #[.int .u64 0, .int .u64 0, .int .u64 0, .int .u64 0] 24)).heap.size (w19.alloc (.cells #[.int .u64 0, .int .u64 0, .int .u64 0, .int .u64 0] 24))).alloc (Nat.le_refl _) (.cells #[.int .u64 (lim a 0), .int .u64 (lim a 1), .int .u64 (lim a 2), .int .u64 (lim a 3), .int .u64 (lim b 0), .int .u64 (lim b 1), .int .u64 (lim b 2), .int .u64 (lim b 3)] 24)
 have S6t := made_ofC (w19.alloc (.cells #[.int .u64 0, .int .u64 0, .int .u64 0, .int .u64 0] 24)) [a, b] [.int .u64 (lim a 0), .int .u64 (lim a 1), .int .u64 (lim a 2), .int .u64 (lim a 3), .int .u64 (lim b 0), .int .u64 (lim b 1), .int .u64 (lim b 2), .int .u64 (lim b 3)] rfl (by simp only [List.mem_cons, List.not_mem_nil, or_false, forall_eq_or_imp, forall_eq]; exact ⟨Va.out, Vb.out⟩) (by simp)
 try simp only [World.size_alloc] at S6t
 have S6 := hid S6t
 clear S6t
 replace HTB := hid (HTB.out.later q21)
 replace HA := hid (HA.out.later q21)
 replace HB := hid (HB.out.later q21)
 replace HM := hid (HM.out.later q21)
 replace HX := hid (HX.out.later q21)
 replace HY := hid (HY.out.later q21)
 replace HZ := hid (HZ.out.later q21)
 replace HW := hid (HW.out.later q21)
 replace HMm := hid (HMm.out.later q21)
 replace QQ := hid (QQ.out.trans (q21.mono QQ.out.size))
 clear q21
 go_wp2_with fail
 refine (top_is _ HTB.out _ _ _ _ (by decide) S6.out (by simp) T6.out (.agg #[.int .u64 (lim sum 0), .int .u64 (lim sum 1), .int .u64 (lim sum 2), .int .u64 (lim sum 3)]) rfl).mono ?_
 rintro _ w22 ⟨rfl, hv, q⟩
 replace HTB := hid (HTB.out.later q)
 replace HA := hid (HA.out.later q)
 replace HB := hid (HB.out.later q)
 replace HM := hid (HM.out.later q)
 replace HX := hid (HX.out.later q)
 replace HY := hid (HY.out.later q)
 replace HZ := hid (HZ.out.later q)
 replace HW := hid (HW.out.later q)
 replace HMm := hid (HMm.out.later q)
 replace S6 := hid (S6.out.later q)
 replace QQ := hid (QQ.out.trans (q.mono QQ.out.size))
 clear q
 have Vsum := hid hv
 clear hv
 clear kA0 kA1 kA2 kA3 kB0 kB1 kB2 kB3
 clear S6
 have ZS := Has.new w22 24 #[.int .u64 0, .int .u64 0, .int .u64 0, .int .u64 0]
 try simp only [World.size_alloc] at ZS
 have zS0 := ZS.cell 0 _ rfl
 have yS0 := ZS.frozen 0
 have zS1 := ZS.cell 1 _ rfl
 have yS1 := ZS.frozen 1
 have zS2 := ZS.cell 2 _ rfl
 have yS2 := ZS.frozen 2
 have zS3 := ZS.cell 3 _ rfl
 have yS3 := ZS.frozen 3
 clear ZS
 have LS := hid QQ.out.size
 have q23 := newA w22 (.cells #[.int .u64 (lim sum 0), .int .u64 (lim sum 1), .int .u64 (lim sum 2), .int .u64 (lim sum 3)] 24)
 have HSt := Has.new w22 24 #[.int .u64 (lim sum 0), .int .u64 (lim sum 1), .int .u64 (lim sum 2), .int .u64 (lim sum 3)]
 try simp only [World.size_alloc] at HSt
 have HS := hid HSt
 clear HSt
 replace HTB := hid (HTB.out.later q23)
 replace HA := hid (HA.out.later q23)
 replace HB := hid (HB.out.later q23)
 replace HM := hid (HM.out.later q23)
 replace HX := hid (HX.out.later q23)
 replace HY := hid (HY.out.later q23)
 replace HZ := hid (HZ.out.later q23)
 replace HW := hid (HW.out.later q23)
 replace HMm := hid (HMm.out.later q23)
 replace QQ := hid (QQ.out.trans (q23.mono QQ.out.size))
 clear q23
 have kA0 := HA.out.cell 0 _ rfl
 have kA1 := HA.out.cell 1 _ rfl
 have kA2 := HA.out.cell 2 _ rfl
 have kA3 := HA.out.cell 3 _ rfl
 have kS0 := HS.out.cell 0 _ rfl
 have kS1 := HS.out.cell 1 _ rfl
 have kS2 := HS.out.cell 2 _ rfl
 have kS3 := HS.out.cell 3 _ rfl
 have q24 := (Below.refl (w22.alloc (.cells #[.int .u64 (lim sum 0), .int .u64 (lim sum 1), .int .u64 (lim sum 2), .int .u64 (lim sum 3)] 24)).heap.size (w22.alloc (.cells #[.int .u64 (lim sum 0), .int .u64 (lim sum 1), .int .u64 (lim sum 2), .int .u64 (lim sum 3)] 24))).alloc (Nat.le_refl _) (.cells #[.int .u64 (lim a 0), .int .u64 (lim a 1), .int .u64 (lim a 2), .int .u64 (lim a 3), .int .u64 (lim sum 0), .int .u64 (lim sum 1), .int .u64 (lim sum 2), .int .u64 (lim sum 3)] 24)
 have S7t := made_ofC (w22.alloc (.cells #[.int .u64 (lim sum 0), .int .u64 (lim sum 1), .int .u64 (lim sum 2), .int .u64 (lim sum 3)] 24)) [a, sum] [.int .u64 (lim a 0), .int .u64 (lim a 1), .int .u64 (lim a 2), .int .u64 (lim a 3), .int .u64 (lim sum 0), .int .u64 (lim sum 1), .int .u64 (lim sum 2), .int .u64 (lim sum 3)] rfl (by simp only [List.mem_cons, List.not_mem_nil, or_false, forall_eq_or_imp, forall_eq]; exact ⟨Va.out, Vsum.out⟩) (by simp)
 try simp only [World.size_alloc] at S7t
 have S7 := hid S7t
 clear S7t
 replace HTB := hid (HTB.out.later q24)
 replace HA := hid (HA.out.later q24)
 replace HB := hid (HB.out.later q24)
 replace HM := hid (HM.out.later q24)
 replace HX := hid (HX.out.later q24)
 replace HY := hid (HY.out.later q24)
 replace HZ := hid (HZ.out.later q24)
 replace HW := hid (HW.out.later q24)
 replace HMm := hid (HMm.out.later q24)
 replace HS := hid (HS.out.later q24)
 replace QQ := hid (QQ.out.trans (q24.mono QQ.out.size))
 clear q24
 go_wp2_with fail
 refine (top_is _ HTB.out _ _ _ _ (by decide) S7.out (by simp) T7.out (.agg #[.int .u64 (lim less 0), .int .u64 (lim less 1), .int .u64 (lim less 2), .int .u64 (lim less 3)]) rfl).mono ?_
 rintro _ w25 ⟨rfl, hv, q⟩
 replace HTB := hid (HTB.out.later q)
 replace HA := hid (HA.out.later q)
 replace HB := hid (HB.out.later q)
 replace HM := hid (HM.out.later q)
 replace HX := hid (HX.out.later q)
 replace HY := hid (HY.out.later q)
 replace HZ := hid (HZ.out.later q)
 replace HW := hid (HW.out.later q)
 replace HMm := hid (HMm.out.later q)
 replace HS := hid (HS.out.later q)
 replace S7 := hid (S7.out.later q)
 replace QQ := hid (QQ.out.trans (q.mono QQ.out.size))
 clear q
 have Vless := hid hv
 clear hv
 clear zS0 yS0 zS1 yS1 zS2 yS2 zS3 yS3 kA0 kA1 kA2 kA3 kS0 kS1 kS2 kS3
 clear S7
 have ZL := Has.new w25 24 #[.int .u64 0, .int .u64 0, .int .u64 0, .int .u64 0]
 try simp only [World.size_alloc] at ZL
 have zL0 := ZL.cell 0 _ rfl
 have yL0 := ZL.frozen 0
 have zL1 := ZL.cell 1 _ rfl
 have yL1 := ZL.frozen 1
 have zL2 := ZL.cell 2 _ rfl
 have yL2 := ZL.frozen 2
 have zL3 := ZL.cell 3 _ rfl
 have yL3 := ZL.frozen 3
 clear ZL
 have LL := hid QQ.out.size
 have q26 := newA w25 (.cells #[.int .u64 (lim less 0), .int .u64 (lim less 1), .int .u64 (lim less 2), .int .u64 (lim less 3)] 24)
 have HLt := Has.new w25 24 #[.int .u64 (lim less 0), .int .u64 (lim less 1), .int .u64 (lim less 2), .int .u64 (lim less 3)]
 try simp only [World.size_alloc] at HLt
 have HL := hid HLt
 clear HLt
 replace HTB := hid (HTB.out.later q26)
 replace HA := hid (HA.out.later q26)
 replace HB := hid (HB.out.later q26)
 replace HM := hid (HM.out.later q26)
 replace HX := hid (HX.out.later q26)
 replace HY := hid (HY.out.later q26)
 replace HZ := hid (HZ.out.later q26)
 replace HW := hid (HW.out.later q26)
 replace HMm := hid (HMm.out.later q26)
 replace HS := hid (HS.out.later q26)
 replace QQ := hid (QQ.out.trans (q26.mono QQ.out.size))
 clear q26
 have kL0 := HL.out.cell 0 _ rfl
 have kL1 := HL.out.cell 1 _ rfl
 have kL2 := HL.out.cell 2 _ rfl
 have kL3 := HL.out.cell 3 _ rfl
 have kS0 := HS.out.cell 0 _ rfl
 have kS1 := HS.out.cell 1 _ rfl
 have kS2 := HS.out.cell 2 _ rfl
 have kS3 := HS.out.cell 3 _ rfl
 have q27 := (Below.refl (w25.alloc (.cells #[.int .u64 (lim less 0), .int .u64 (lim less 1), .int .u64 (lim less 2), .int .u64 (lim less 3)] 24)).heap.size (w25.alloc (.cells #[.int .u64 (lim less 0), .int .u64 (lim less 1), .int .u64 (lim less 2), .int .u64 (lim less 3)] 24))).alloc (Nat.le_refl _) (.cells #[.int .u64 (lim sum 0), .int .u64 (lim sum 1), .int .u64 (lim sum 2), .int .u64 (lim sum 3), .int .u64 (lim less 0), .int .u64 (lim less 1), .int .u64 (lim less 2), .int .u64 (lim less 3)] 24)
 have S8t := made_ofC (w25.alloc (.cells #[.int .u64 (lim less 0), .int .u64 (lim less 1), .int .u64 (lim less 2), .int .u64 (lim less 3)] 24)) [sum, less] [.int .u64 (lim sum 0), .int .u64 (lim sum 1), .int .u64 (lim sum 2), .int .u64 (lim sum 3), .int .u64 (lim less 0), .int .u64 (lim less 1), .int .u64 (lim less 2), .int .u64 (lim less 3)] rfl (by simp only [List.mem_cons, List.not_mem_nil, or_false, forall_eq_or_imp, forall_eq]; exact ⟨Vsum.out, Vless.out⟩) (by simp)
 try simp only [World.size_alloc] at S8t
 have S8 := hid S8t
 clear S8t
 replace HTB := hid (HTB.out.later q27)
 replace HA := hid (HA.out.later q27)
 replace HB := hid (HB.out.later q27)
 replace HM := hid (HM.out.later q27)
 replace HX := hid (HX.out.later q27)
 replace HY := hid (HY.out.later q27)
 replace HZ := hid (HZ.out.later q27)
 replace HW := hid (HW.out.later q27)
 replace HMm := hid (HMm.out.later q27)
 replace HS := hid (HS.out.later q27)
 replace HL := hid (HL.out.later q27)
 replace QQ := hid (QQ.out.trans (q27.mono QQ.out.size))
 clear q27
 go_wp2_with fail
 refine (top_is _ HTB.out _ _ _ _ (by decide) S8.out (by simp) T8.out _ ones_cells).mono ?_
 rintro _ w28 ⟨rfl, _, q⟩
 replace HTB := hid (HTB.out.later q)
 replace HA := hid (HA.out.later q)
 replace HB := hid (HB.out.later q)
 replace HM := hid (HM.out.later q)
 replace HX := hid (HX.out.later q)
 replace HY := hid (HY.out.later q)
 replace HZ := hid (HZ.out.later q)
 replace HW := hid (HW.out.later q)
 replace HMm := hid (HMm.out.later q)
 replace HS := hid (HS.out.later q)
 replace HL := hid (HL.out.later q)
 replace S8 := hid (S8.out.later q)
 replace QQ := hid (QQ.out.trans (q.mono QQ.out.size))
 clear q
 clear zL0 yL0 zL1 yL1 zL2 yL2 zL3 yL3 kL0 kL1 kL2 kL3 kS0 kS1 kS2 kS3
 clear S8
 have qz := newA w28 (.cells #[.int .u64 0, .int .u64 0, .int .u64 0, .int .u64 0] 24)
 have GX := hid (HX.out.later qz)
 have GY := hid (HY.out.later qz)
 have GZ := hid (HZ.out.later qz)
 have GW := hid (HW.out.later qz)
 have GMm := hid (HMm.out.later qz)
 have GWa := hid (Has.new w28 24 #[.int .u64 0, .int .u64 0, .int .u64 0, .int .u64 0])
 have QF := hid (QQ.out.alloc QQ.out.size (.cells #[.int .u64 0, .int .u64 0, .int .u64 0, .int .u64 0] 24))
 clear qz
 have ZWa := Has.new w28 24 #[.int .u64 0, .int .u64 0, .int .u64 0, .int .u64 0]
 try simp only [World.size_alloc] at ZWa
 have zWa0 := ZWa.cell 0 _ rfl
 have yWa0 := ZWa.frozen 0
 have zWa1 := ZWa.cell 1 _ rfl
 have yWa1 := ZWa.frozen 1
 have zWa2 := ZWa.cell 2 _ rfl
 have yWa2 := ZWa.frozen 2
 have zWa3 := ZWa.cell 3 _ rfl
 have yWa3 := ZWa.frozen 3
 clear ZWa
 have LWa := hid QQ.out.size
 have q29 := newA w28 (.cells #[.int .u64 18446744073709551615, .int .u64 18446744073709551615, .int .u64 18446744073709551615, .int .u64 18446744073709551615] 24)
 have HWat := Has.new w28 24 #[.int .u64 18446744073709551615, .int .u64 18446744073709551615, .int .u64 18446744073709551615, .int .u64 18446744073709551615]
 try simp only [World.size_alloc] at HWat
 have HWa := hid HWat
 clear HWat
 replace HTB := hid (HTB.out.later q29)
 replace HA := hid (HA.out.later q29)
 replace HB := hid (HB.out.later q29)
 replace HM := hid (HM.out.later q29)
 replace HX := hid (HX.out.later q29)
 replace HY := hid (HY.out.later q29)
 replace HZ := hid (HZ.out.later q29)
 replace HW := hid (HW.out.later q29)
 replace HMm := hid (HMm.out.later q29)
 replace HS := hid (HS.out.later q29)
 replace HL := hid (HL.out.later q29)
 replace QQ := hid (QQ.out.trans (q29.mono QQ.out.size))
 clear q29
 have kX0 := HX.out.cell 0 _ rfl
 have kX1 := HX.out.cell 1 _ rfl
 have kX2 := HX.out.cell 2 _ rfl
 have kX3 := HX.out.cell 3 _ rfl
 have kY0 := HY.out.cell 0 _ rfl
 have kY1 := HY.out.cell 1 _ rfl
 have kY2 := HY.out.cell 2 _ rfl
 have kY3 := HY.out.cell 3 _ rfl
 have kZ0 := HZ.out.cell 0 _ rfl
 have kZ1 := HZ.out.cell 1 _ rfl
 have kZ2 := HZ.out.cell 2 _ rfl
 have kZ3 := HZ.out.cell 3 _ rfl
 have kW0 := HW.out.cell 0 _ rfl
 have kW1 := HW.out.cell 1 _ rfl
 have kW2 := HW.out.cell 2 _ rfl
 have kW3 := HW.out.cell 3 _ rfl
 have kMm0 := HMm.out.cell 0 _ rfl
 have kMm1 := HMm.out.cell 1 _ rfl
 have kMm2 := HMm.out.cell 2 _ rfl
 have kMm3 := HMm.out.cell 3 _ rfl
 have kM0 := HM.out.cell 0 _ rfl
 have kM1 := HM.out.cell 1 _ rfl
 have kM2 := HM.out.cell 2 _ rfl
 have kM3 := HM.out.cell 3 _ rfl
 have kWa0 := HWa.out.cell 0 _ rfl
 have kWa1 := HWa.out.cell 1 _ rfl
 have kWa2 := HWa.out.cell 2 _ rfl
 have kWa3 := HWa.out.cell 3 _ rfl
 have fWa0 := HWa.out.frozen 0
 have fWa1 := HWa.out.frozen 1
 have fWa2 := HWa.out.frozen 2
 have fWa3 := HWa.out.frozen 3
 have gX0 := GX.out.cell 0 _ rfl
 have gX1 := GX.out.cell 1 _ rfl
 have gX2 := GX.out.cell 2 _ rfl
 have gX3 := GX.out.cell 3 _ rfl
 have gY0 := GY.out.cell 0 _ rfl
 have gY1 := GY.out.cell 1 _ rfl
 have gY2 := GY.out.cell 2 _ rfl
 have gY3 := GY.out.cell 3 _ rfl
 have gZ0 := GZ.out.cell 0 _ rfl
 have gZ1 := GZ.out.cell 1 _ rfl
 have gZ2 := GZ.out.cell 2 _ rfl
 have gZ3 := GZ.out.cell 3 _ rfl
 have gW0 := GW.out.cell 0 _ rfl
 have gW1 := GW.out.cell 1 _ rfl
 have gW2 := GW.out.cell 2 _ rfl
 have gW3 := GW.out.cell 3 _ rfl
 have gMm0 := GMm.out.cell 0 _ rfl
 have gMm1 := GMm.out.cell 1 _ rfl
 have gMm2 := GMm.out.cell 2 _ rfl
 have gMm3 := GMm.out.cell 3 _ rfl
 have gWa0 := GWa.out.cell 0 _ rfl
 have gWa1 := GWa.out.cell 1 _ rfl
 have gWa2 := GWa.out.cell 2 _ rfl
 have gWa3 := GWa.out.cell 3 _ rfl
 go_wp2
 go_ret
 exact ⟨rfl, QF.out⟩
theorem m1_cells (x : Nat) (hx : W256 x) (h : x ≠ M1) : (lim x 0 == 18446744073709551615 && lim x 1 == 18446744073709551615 && lim x 2 == 18446744073709551615 && lim x 3 == 18446744073709551615) = false := by
 have h1 := lim_same x M1 hx M1_lt
 rw [decide_eq_false h] at h1
 exact h1
theorem mods_num (a b : Nat) (ha : W256 a) (hb : W256 b) : (if M1 = 0 then 0 else (a + b) % M1) = if wmod (truN (decide (wmod (b + a) < a)) + wmod (b + a)) = M1 then 0 else wmod (truN (decide (wmod (b + a) < a)) + wmod (b + a)) := by
 rw [if_neg (show ¬ M1 = 0 by decide)]
 unfold W256 at ha hb
 rw [Nat.add_comm b a]
 unfold wmod truN M1
 simp only [decide_eq_true_eq]
 obtain ⟨s, hs⟩ : ∃ s, a + b = s := ⟨_, rfl⟩
 rw [hs]
 rcases Nat.lt_or_ge s 115792089237316195423570985008687907853269984665640564039457584007913129639936 with h | h
 ·have e : s % 115792089237316195423570985008687907853269984665640564039457584007913129639936 = s := Nat.mod_eq_of_lt h
  have h3 : (if s < a then 1 else 0 : Nat) = 0 := if_neg (by omega)
  rw [e, h3, Nat.zero_add, e]
  split <;> omega
 ·have e : s % 115792089237316195423570985008687907853269984665640564039457584007913129639936 = s - 115792089237316195423570985008687907853269984665640564039457584007913129639936 := by omega
  have h3 : (if s - 115792089237316195423570985008687907853269984665640564039457584007913129639936 < a then 1 else 0 : Nat) = 1 := if_pos (by omega)
  rw [e, h3]
  have e2 : (1 + (s - 115792089237316195423570985008687907853269984665640564039457584007913129639936)) % 115792089237316195423570985008687907853269984665640564039457584007913129639936 = s - 115792089237316195423570985008687907853269984665640564039457584007913129639935 := by omega
  rw [e2]
  split <;> omega
theorem computeMods_any (W : World) (hT : Tab W) (a b : Nat) (ha : W256 a) (hb : W256 b) : Calls Tryz.prog 7 #[wv a, wv b] W fun e w' => e = .returned (.bool true) ∧ Below W.heap.size W w' := by
 have h1 : TopIs 8 [0, b, a] 0 := top_three 8 a b 0 (by decide) (by decide)
 have h2 : TopIs 9 [0, b, a] 0 := top_three 9 a b 0 (by decide) (by decide)
 have h3 : TopIs 10 [2, a] (wmod (a ^ 2)) := top_two 10 a 2 (by decide) (by decide)
 have h4 : TopIs 2 [a, a] (wmod (a * a)) := top_two 2 a a (by decide) (by decide)
 rw [Nat.pow_two] at h3
 have h5 : TopIs 8 [M1, b, a] (if M1 = 0 then 0 else (a + b) % M1) := top_three 8 a b M1 (by decide) (by decide)
 have h6 : TopIs 1 [a, b] (wmod (b + a)) := top_two 1 b a (by decide) (by decide)
 have h7 : TopIs 16 [a, wmod (b + a)] (truN (decide (wmod (b + a) < a))) := top_two 16 (wmod (b + a)) a (by decide) (by decide)
 have h8 : TopIs 1 [wmod (b + a), truN (decide (wmod (b + a) < a))] (wmod (truN (decide (wmod (b + a) < a)) + wmod (b + a))) := top_two 1 _ _ (by decide) (by decide)
 rw [mods_num a b ha hb] at h5
 by_cases hw : wmod (truN (decide (wmod (b + a) < a)) + wmod (b + a)) = M1
 ·rw [if_pos hw] at h5
  rw [hw] at h8
  exact mods_b W hT a b _ _ _ 0 ha hb h1 h2 h3 h4 h5 h6 h7 h8
 ·rw [if_neg hw] at h5
  exact mods_a W hT a b _ _ _ _ ha hb h1 h2 h3 h4 h5 h6 h7 h8 (m1_cells _ (wmod_lt _) hw)
end Go.Proofs.YtnkhmgmganejmaaGreatDoor
