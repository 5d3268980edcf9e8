/- Part. -/
import Derived.Test.YtnkhmgmganejmaaGreatDoorT20
import Derived.Test.YtnkhmgmganejmaaGreatDoorT15
import Derived.Test.YtnkhmgmganejmaaGreatDoorT08
import Derived.Test.YtnkhmgmganejmaaGreatDoorT29
import Derived.Test.YtnkhmgmganejmaaGreatDoorRows
import Derived.ProofKit
import Derived.LaidMore
import Derived.OpenShut
import Derived.Stop.Joined
import Derived.ChangeSame
import Derived.Below
import Derived.Laws.IdiomArrays
import Derived.Test.YtnkhmgmganejmaaGreatDoorT07
import Derived.Lib.LaidTab
import Derived.LaidSub
import Derived.LaidLaws
import Derived.Deep.Slices
import Derived.ReadAgain
import Derived.Carry
import Derived.Test.YtnkhmgmganejmaaGreatDoorT14
set_option maxRecDepth 100000
set_option maxHeartbeats 16000000
namespace Go.Proofs.YtnkhmgmganejmaaGreatDoor
section
open Go Go.RowKit
attribute [local go_sem] Oper.semAt_some Grows wide_fn eq4
theorem made_ofC (w : World) (l : List Nat) (cs : List Value) (h : flatW l = cs) (hw : ∀ x ∈ l, W256 x) (hl : l.length ≤ 100000) : WdsAt (w.alloc (.cells cs.toArray 24)) (.slice (some ⟨w.heap.size, 0, none⟩) l.length l.length) l := by subst h; exact words_made w l hw hl
theorem small_wC {l : List Nat} (h : ∀ x ∈ l, x ≤ 2000) : ∀ x ∈ l, W256 x := fun x hx => by have := h x hx; unfold W256; omega
theorem ofC_0 : Ret Tryz.prog 10 #[.int .i64 0] (.agg #[.int .u64 0, .int .u64 0, .int .u64 0, .int .u64 0]) := (refOf_ret 0 (by unfold I64; omega)).of_eq rfl (wv_of ⟨by decide, by decide, by decide, by decide⟩)
theorem ofC_1 : Ret Tryz.prog 10 #[.int .i64 1] (.agg #[.int .u64 1, .int .u64 0, .int .u64 0, .int .u64 0]) := (refOf_ret 1 (by unfold I64; omega)).of_eq rfl (wv_of ⟨by decide, by decide, by decide, by decide⟩)
theorem ofC_2 : Ret Tryz.prog 10 #[.int .i64 2] (.agg #[.int .u64 2, .int .u64 0, .int .u64 0, .int .u64 0]) := (refOf_ret 2 (by unfold I64; omega)).of_eq rfl (wv_of ⟨by decide, by decide, by decide, by decide⟩)
theorem ofC_3 : Ret Tryz.prog 10 #[.int .i64 3] (.agg #[.int .u64 3, .int .u64 0, .int .u64 0, .int .u64 0]) := (refOf_ret 3 (by unfold I64; omega)).of_eq rfl (wv_of ⟨by decide, by decide, by decide, by decide⟩)
theorem ofC_4 : Ret Tryz.prog 10 #[.int .i64 4] (.agg #[.int .u64 4, .int .u64 0, .int .u64 0, .int .u64 0]) := (refOf_ret 4 (by unfold I64; omega)).of_eq rfl (wv_of ⟨by decide, by decide, by decide, by decide⟩)
theorem ofC_5 : Ret Tryz.prog 10 #[.int .i64 5] (.agg #[.int .u64 5, .int .u64 0, .int .u64 0, .int .u64 0]) := (refOf_ret 5 (by unfold I64; omega)).of_eq rfl (wv_of ⟨by decide, by decide, by decide, by decide⟩)
theorem ofC_7 : Ret Tryz.prog 10 #[.int .i64 7] (.agg #[.int .u64 7, .int .u64 0, .int .u64 0, .int .u64 0]) := (refOf_ret 7 (by unfold I64; omega)).of_eq rfl (wv_of ⟨by decide, by decide, by decide, by decide⟩)
theorem awake_any (W : World) (hT : Tab W) : Calls Tryz.prog 8 #[] W fun e w' => e = .returned (.bool true) ∧ Below W.heap.size W w' := by
 have HTB := hid hT
 have O0 := hid ofC_0
 have O1 := hid ofC_1
 have O2 := hid ofC_2
 have O3 := hid ofC_3
 have O4 := hid ofC_4
 have O5 := hid ofC_5
 have O7 := hid ofC_7
 clear hT
 go_enter Tryz.func8, Tryz.ntmps8
 go_wp2_with fail
 refine (O3.out _).mono ?_
 rintro _ w1 ⟨rfl, q1⟩
 replace HTB := hid (HTB.out.later q1)
 have QQ := hid q1
 clear q1
 go_wp2_with fail
 refine (O5.out _).mono ?_
 rintro _ w2 ⟨rfl, q2⟩
 replace HTB := hid (HTB.out.later q2)
 replace QQ := hid (QQ.out.trans (q2.mono QQ.out.size))
 clear q2
 have q3 := newA w2 (.cells #[.int .u64 3, .int .u64 0, .int .u64 0, .int .u64 0, .int .u64 5, .int .u64 0, .int .u64 0, .int .u64 0] 24)
 have B1 := hid (made_ofC w2 [3, 5] [.int .u64 3, .int .u64 0, .int .u64 0, .int .u64 0, .int .u64 5, .int .u64 0, .int .u64 0, .int .u64 0] rfl (small_wC (by decide)) (by decide))
 replace HTB := hid (HTB.out.later q3)
 replace QQ := hid (QQ.out.trans (q3.mono QQ.out.size))
 clear q3
 go_wp2_with fail
 refine (do_any _ HTB.out _ [3, 5] 3 (by decide) B1.out (by decide)).mono ?_
 rintro _ w4 ⟨v, rfl, h, q⟩
 replace HTB := hid (HTB.out.later q)
 replace B1 := hid (B1.out.later q)
 replace QQ := hid (QQ.out.trans (q.mono QQ.out.size))
 clear q
 rw [show doE 3 [3, 5] = 0 by decide +kernel]
 replace h := (show WdsAt _ _ [2] from h)
 obtain ⟨aS, cS, rfl, _, _⟩ := h.shape
 have HS := hid h
 clear h
 simp only [List.length_cons, List.length_nil, Nat.zero_add] at HS ⊢
 clear B1
 go_wp2_with fail
 refine (O3.out _).mono ?_
 rintro _ w5 ⟨rfl, q5⟩
 replace HTB := hid (HTB.out.later q5)
 replace HS := hid (HS.out.later q5)
 replace QQ := hid (QQ.out.trans (q5.mono QQ.out.size))
 clear q5
 go_wp2_with fail
 refine (O5.out _).mono ?_
 rintro _ w6 ⟨rfl, q6⟩
 replace HTB := hid (HTB.out.later q6)
 replace HS := hid (HS.out.later q6)
 replace QQ := hid (QQ.out.trans (q6.mono QQ.out.size))
 clear q6
 have q7 := newA w6 (.cells #[.int .u64 3, .int .u64 0, .int .u64 0, .int .u64 0, .int .u64 5, .int .u64 0, .int .u64 0, .int .u64 0] 24)
 have B2 := hid (made_ofC w6 [3, 5] [.int .u64 3, .int .u64 0, .int .u64 0, .int .u64 0, .int .u64 5, .int .u64 0, .int .u64 0, .int .u64 0] rfl (small_wC (by decide)) (by decide))
 replace HTB := hid (HTB.out.later q7)
 replace HS := hid (HS.out.later q7)
 replace QQ := hid (QQ.out.trans (q7.mono QQ.out.size))
 clear q7
 go_wp2_with fail
 refine (do_any _ HTB.out _ [3, 5] 16 (by decide) B2.out (by decide)).mono ?_
 rintro _ w8 ⟨v, rfl, h, q⟩
 replace HTB := hid (HTB.out.later q)
 replace HS := hid (HS.out.later q)
 replace B2 := hid (B2.out.later q)
 replace QQ := hid (QQ.out.trans (q.mono QQ.out.size))
 clear q
 rw [show doE 16 [3, 5] = 0 by decide +kernel]
 replace h := (show WdsAt _ _ [0] from h)
 obtain ⟨aT, cT, rfl, _, _⟩ := h.shape
 have HT := hid h
 clear h
 simp only [List.length_cons, List.length_nil, Nat.zero_add] at HT ⊢
 clear B2
 go_wp2_with fail
 refine (O3.out _).mono ?_
 rintro _ w9 ⟨rfl, q9⟩
 replace HTB := hid (HTB.out.later q9)
 replace HS := hid (HS.out.later q9)
 replace HT := hid (HT.out.later q9)
 replace QQ := hid (QQ.out.trans (q9.mono QQ.out.size))
 clear q9
 go_wp2_with fail
 refine (O5.out _).mono ?_
 rintro _ w10 ⟨rfl, q10⟩
 replace HTB := hid (HTB.out.later q10)
 replace HS := hid (HS.out.later q10)
 replace HT := hid (HT.out.later q10)
 replace QQ := hid (QQ.out.trans (q10.mono QQ.out.size))
 clear q10
 have q11 := newA w10 (.cells #[.int .u64 3, .int .u64 0, .int .u64 0, .int .u64 0, .int .u64 5, .int .u64 0, .int .u64 0, .int .u64 0] 24)
 have B3 := hid (made_ofC w10 [3, 5] [.int .u64 3, .int .u64 0, .int .u64 0, .int .u64 0, .int .u64 5, .int .u64 0, .int .u64 0, .int .u64 0] rfl (small_wC (by decide)) (by decide))
 replace HTB := hid (HTB.out.later q11)
 replace HS := hid (HS.out.later q11)
 replace HT := hid (HT.out.later q11)
 replace QQ := hid (QQ.out.trans (q11.mono QQ.out.size))
 clear q11
 go_wp2_with fail
 refine (do_any _ HTB.out _ [3, 5] 129 (by decide) B3.out (by decide)).mono ?_
 rintro _ w12 ⟨v, rfl, h, q⟩
 replace HTB := hid (HTB.out.later q)
 replace HS := hid (HS.out.later q)
 replace HT := hid (HT.out.later q)
 replace B3 := hid (B3.out.later q)
 replace QQ := hid (QQ.out.trans (q.mono QQ.out.size))
 clear q
 rw [show doE 129 [3, 5] = 0 by decide +kernel]
 replace h := (show WdsAt _ _ [3, 5, 3] from h)
 obtain ⟨aU, cU, rfl, _, _⟩ := h.shape
 have HU := hid h
 clear h
 simp only [List.length_cons, List.length_nil, Nat.zero_add, Nat.reduceAdd] at HU ⊢
 clear B3
 go_wp2_with fail
 refine (O3.out _).mono ?_
 rintro _ w13 ⟨rfl, q13⟩
 replace HTB := hid (HTB.out.later q13)
 replace HS := hid (HS.out.later q13)
 replace HT := hid (HT.out.later q13)
 replace HU := hid (HU.out.later q13)
 replace QQ := hid (QQ.out.trans (q13.mono QQ.out.size))
 clear q13
 go_wp2_with fail
 refine (O5.out _).mono ?_
 rintro _ w14 ⟨rfl, q14⟩
 replace HTB := hid (HTB.out.later q14)
 replace HS := hid (HS.out.later q14)
 replace HT := hid (HT.out.later q14)
 replace HU := hid (HU.out.later q14)
 replace QQ := hid (QQ.out.trans (q14.mono QQ.out.size))
 clear q14
 have q15 := newA w14 (.cells #[.int .u64 3, .int .u64 0, .int .u64 0, .int .u64 0, .int .u64 5, .int .u64 0, .int .u64 0, .int .u64 0] 24)
 have B4 := hid (made_ofC w14 [3, 5] [.int .u64 3, .int .u64 0, .int .u64 0, .int .u64 0, .int .u64 5, .int .u64 0, .int .u64 0, .int .u64 0] rfl (small_wC (by decide)) (by decide))
 replace HTB := hid (HTB.out.later q15)
 replace HS := hid (HS.out.later q15)
 replace HT := hid (HT.out.later q15)
 replace HU := hid (HU.out.later q15)
 replace QQ := hid (QQ.out.trans (q15.mono QQ.out.size))
 clear q15
 go_wp2_with fail
 refine (do_any _ HTB.out _ [3, 5] 80 (by decide) B4.out (by decide)).mono ?_
 rintro _ w16 ⟨v, rfl, h, q⟩
 replace HTB := hid (HTB.out.later q)
 replace HS := hid (HS.out.later q)
 replace HT := hid (HT.out.later q)
 replace HU := hid (HU.out.later q)
 replace B4 := hid (B4.out.later q)
 replace QQ := hid (QQ.out.trans (q.mono QQ.out.size))
 clear q
 rw [show doE 80 [3, 5] = 0 by decide +kernel]
 replace h := (show WdsAt _ _ [3] from h)
 obtain ⟨aV, cV, rfl, _, _⟩ := h.shape
 have HV := hid h
 clear h
 simp only [List.length_cons, List.length_nil, Nat.zero_add] at HV ⊢
 clear B4
 go_wp2_with fail
 refine (O7.out _).mono ?_
 rintro _ w17 ⟨rfl, q17⟩
 replace HTB := hid (HTB.out.later q17)
 replace HS := hid (HS.out.later q17)
 replace HT := hid (HT.out.later q17)
 replace HU := hid (HU.out.later q17)
 replace HV := hid (HV.out.later q17)
 replace QQ := hid (QQ.out.trans (q17.mono QQ.out.size))
 clear q17
 go_wp2_with fail
 refine (O5.out _).mono ?_
 rintro _ w18 ⟨rfl, q18⟩
 replace HTB := hid (HTB.out.later q18)
 replace HS := hid (HS.out.later q18)
 replace HT := hid (HT.out.later q18)
 replace HU := hid (HU.out.later q18)
 replace HV := hid (HV.out.later q18)
 replace QQ := hid (QQ.out.trans (q18.mono QQ.out.size))
 clear q18
 go_wp2_with fail
 refine (O4.out _).mono ?_
 rintro _ w19 ⟨rfl, q19⟩
 replace HTB := hid (HTB.out.later q19)
 replace HS := hid (HS.out.later q19)
 replace HT := hid (HT.out.later q19)
 replace HU := hid (HU.out.later q19)
 replace HV := hid (HV.out.later q19)
 replace QQ := hid (QQ.out.trans (q19.mono QQ.out.size))
 clear q19
 have q20 := newA w19 (.cells #[.int .u64 7, .int .u64 0, .int .u64 0, .int .u64 0, .int .u64 5, .int .u64 0, .int .u64 0, .int .u64 0, .int .u64 4, .int .u64 0, .int .u64 0, .int .u64 0] 24)
 have B5 := hid (made_ofC w19 [7, 5, 4] [.int .u64 7, .int .u64 0, .int .u64 0, .int .u64 0, .int .u64 5, .int .u64 0, .int .u64 0, .int .u64 0, .int .u64 4, .int .u64 0, .int .u64 0, .int .u64 0] rfl (small_wC (by decide)) (by decide))
 replace HTB := hid (HTB.out.later q20)
 replace HS := hid (HS.out.later q20)
 replace HT := hid (HT.out.later q20)
 replace HU := hid (HU.out.later q20)
 replace HV := hid (HV.out.later q20)
 replace QQ := hid (QQ.out.trans (q20.mono QQ.out.size))
 clear q20
 go_wp2_with fail
 refine (do_any _ HTB.out _ [7, 5, 4] 8 (by decide) B5.out (by decide)).mono ?_
 rintro _ w21 ⟨v, rfl, h, q⟩
 replace HTB := hid (HTB.out.later q)
 replace HS := hid (HS.out.later q)
 replace HT := hid (HT.out.later q)
 replace HU := hid (HU.out.later q)
 replace HV := hid (HV.out.later q)
 replace B5 := hid (B5.out.later q)
 replace QQ := hid (QQ.out.trans (q.mono QQ.out.size))
 clear q
 rw [show doE 8 [7, 5, 4] = 0 by decide +kernel]
 replace h := (show WdsAt _ _ [2] from h)
 obtain ⟨aX, cX, rfl, _, _⟩ := h.shape
 have HX := hid h
 clear h
 simp only [List.length_cons, List.length_nil, Nat.zero_add] at HX ⊢
 clear B5
 go_wp2_with fail
 refine (O1.out _).mono ?_
 rintro _ w22 ⟨rfl, q22⟩
 replace HTB := hid (HTB.out.later q22)
 replace HS := hid (HS.out.later q22)
 replace HT := hid (HT.out.later q22)
 replace HU := hid (HU.out.later q22)
 replace HV := hid (HV.out.later q22)
 replace HX := hid (HX.out.later q22)
 replace QQ := hid (QQ.out.trans (q22.mono QQ.out.size))
 clear q22
 have q23 := newA w22 (.cells #[.int .u64 1, .int .u64 0, .int .u64 0, .int .u64 0] 24)
 have B6 := hid (made_ofC w22 [1] [.int .u64 1, .int .u64 0, .int .u64 0, .int .u64 0] rfl (small_wC (by decide)) (by decide))
 replace HTB := hid (HTB.out.later q23)
 replace HS := hid (HS.out.later q23)
 replace HT := hid (HT.out.later q23)
 replace HU := hid (HU.out.later q23)
 replace HV := hid (HV.out.later q23)
 replace HX := hid (HX.out.later q23)
 replace QQ := hid (QQ.out.trans (q23.mono QQ.out.size))
 clear q23
 go_wp2_with fail
 refine (do_any _ HTB.out _ [1] 1 (by decide) B6.out (by decide)).mono ?_
 rintro _ w24 ⟨v, rfl, h, q⟩
 replace HTB := hid (HTB.out.later q)
 replace HS := hid (HS.out.later q)
 replace HT := hid (HT.out.later q)
 replace HU := hid (HU.out.later q)
 replace HV := hid (HV.out.later q)
 replace HX := hid (HX.out.later q)
 replace B6 := hid (B6.out.later q)
 replace QQ := hid (QQ.out.trans (q.mono QQ.out.size))
 clear q
 rw [show doE 1 [1] = 40 by decide +kernel]
 obtain ⟨ax, cx, rfl, _, _⟩ := h.shape
 generalize (doL 1 [1]).length = nx1
 clear h
 clear B6
 go_wp2_with fail
 refine (do_any _ HTB.out _ [] 32 (by decide) (WdsAt.nil _) (by decide)).mono ?_
 rintro _ w25 ⟨v, rfl, h, q⟩
 replace HTB := hid (HTB.out.later q)
 replace HS := hid (HS.out.later q)
 replace HT := hid (HT.out.later q)
 replace HU := hid (HU.out.later q)
 replace HV := hid (HV.out.later q)
 replace HX := hid (HX.out.later q)
 replace QQ := hid (QQ.out.trans (q.mono QQ.out.size))
 clear q
 rw [show doE 32 [] = 42 by decide +kernel]
 obtain ⟨ax, cx, rfl, _, _⟩ := h.shape
 generalize (doL 32 []).length = nx32
 clear h
 go_wp2_with fail
 refine (O2.out _).mono ?_
 rintro _ w26 ⟨rfl, q26⟩
 replace HTB := hid (HTB.out.later q26)
 replace HS := hid (HS.out.later q26)
 replace HT := hid (HT.out.later q26)
 replace HU := hid (HU.out.later q26)
 replace HV := hid (HV.out.later q26)
 replace HX := hid (HX.out.later q26)
 replace QQ := hid (QQ.out.trans (q26.mono QQ.out.size))
 clear q26
 have q27 := newA w26 (.cells #[.int .u64 2, .int .u64 0, .int .u64 0, .int .u64 0] 24)
 have B7 := hid (made_ofC w26 [2] [.int .u64 2, .int .u64 0, .int .u64 0, .int .u64 0] rfl (small_wC (by decide)) (by decide))
 replace HTB := hid (HTB.out.later q27)
 replace HS := hid (HS.out.later q27)
 replace HT := hid (HT.out.later q27)
 replace HU := hid (HU.out.later q27)
 replace HV := hid (HV.out.later q27)
 replace HX := hid (HX.out.later q27)
 replace QQ := hid (QQ.out.trans (q27.mono QQ.out.size))
 clear q27
 go_wp2_with fail
 refine (same_words _ _ _ [2] [2] HS.out B7.out).mono ?_
 rintro _ w28 ⟨rfl, q⟩
 replace HTB := hid (HTB.out.later q)
 replace HS := hid (HS.out.later q)
 replace HT := hid (HT.out.later q)
 replace HU := hid (HU.out.later q)
 replace HV := hid (HV.out.later q)
 replace HX := hid (HX.out.later q)
 replace B7 := hid (B7.out.later q)
 replace QQ := hid (QQ.out.trans (q.mono QQ.out.size))
 clear q
 rw [show decide (([2] : List Nat) = [2]) = true by decide]
 clear B7 HS
 go_wp2_with fail
 refine (O0.out _).mono ?_
 rintro _ w29 ⟨rfl, q29⟩
 replace HTB := hid (HTB.out.later q29)
 replace HT := hid (HT.out.later q29)
 replace HU := hid (HU.out.later q29)
 replace HV := hid (HV.out.later q29)
 replace HX := hid (HX.out.later q29)
 replace QQ := hid (QQ.out.trans (q29.mono QQ.out.size))
 clear q29
 have q30 := newA w29 (.cells z4 24)
 have B8 := hid (made_ofC w29 [0] [.int .u64 0, .int .u64 0, .int .u64 0, .int .u64 0] rfl (small_wC (by decide)) (by decide))
 replace HTB := hid (HTB.out.later q30)
 replace HT := hid (HT.out.later q30)
 replace HU := hid (HU.out.later q30)
 replace HV := hid (HV.out.later q30)
 replace HX := hid (HX.out.later q30)
 replace QQ := hid (QQ.out.trans (q30.mono QQ.out.size))
 clear q30
 go_wp2_with fail
 refine (same_words _ _ _ [0] [0] HT.out B8.out).mono ?_
 rintro _ w31 ⟨rfl, q⟩
 replace HTB := hid (HTB.out.later q)
 replace HT := hid (HT.out.later q)
 replace HU := hid (HU.out.later q)
 replace HV := hid (HV.out.later q)
 replace HX := hid (HX.out.later q)
 replace B8 := hid (B8.out.later q)
 replace QQ := hid (QQ.out.trans (q.mono QQ.out.size))
 clear q
 rw [show decide (([0] : List Nat) = [0]) = true by decide]
 clear B8 HT
 go_wp2_with fail
 refine (O3.out _).mono ?_
 rintro _ w32 ⟨rfl, q32⟩
 replace HTB := hid (HTB.out.later q32)
 replace HU := hid (HU.out.later q32)
 replace HV := hid (HV.out.later q32)
 replace HX := hid (HX.out.later q32)
 replace QQ := hid (QQ.out.trans (q32.mono QQ.out.size))
 clear q32
 go_wp2_with fail
 refine (O5.out _).mono ?_
 rintro _ w33 ⟨rfl, q33⟩
 replace HTB := hid (HTB.out.later q33)
 replace HU := hid (HU.out.later q33)
 replace HV := hid (HV.out.later q33)
 replace HX := hid (HX.out.later q33)
 replace QQ := hid (QQ.out.trans (q33.mono QQ.out.size))
 clear q33
 go_wp2_with fail
 refine (O3.out _).mono ?_
 rintro _ w34 ⟨rfl, q34⟩
 replace HTB := hid (HTB.out.later q34)
 replace HU := hid (HU.out.later q34)
 replace HV := hid (HV.out.later q34)
 replace HX := hid (HX.out.later q34)
 replace QQ := hid (QQ.out.trans (q34.mono QQ.out.size))
 clear q34
 have q35 := newA w34 (.cells #[.int .u64 3, .int .u64 0, .int .u64 0, .int .u64 0, .int .u64 5, .int .u64 0, .int .u64 0, .int .u64 0, .int .u64 3, .int .u64 0, .int .u64 0, .int .u64 0] 24)
 have B9 := hid (made_ofC w34 [3, 5, 3] [.int .u64 3, .int .u64 0, .int .u64 0, .int .u64 0, .int .u64 5, .int .u64 0, .int .u64 0, .int .u64 0, .int .u64 3, .int .u64 0, .int .u64 0, .int .u64 0] rfl (small_wC (by decide)) (by decide))
 replace HTB := hid (HTB.out.later q35)
 replace HU := hid (HU.out.later q35)
 replace HV := hid (HV.out.later q35)
 replace HX := hid (HX.out.later q35)
 replace QQ := hid (QQ.out.trans (q35.mono QQ.out.size))
 clear q35
 go_wp2_with fail
 refine (same_words _ _ _ [3, 5, 3] [3, 5, 3] HU.out B9.out).mono ?_
 rintro _ w36 ⟨rfl, q⟩
 replace HTB := hid (HTB.out.later q)
 replace HU := hid (HU.out.later q)
 replace HV := hid (HV.out.later q)
 replace HX := hid (HX.out.later q)
 replace B9 := hid (B9.out.later q)
 replace QQ := hid (QQ.out.trans (q.mono QQ.out.size))
 clear q
 rw [show decide (([3, 5, 3] : List Nat) = [3, 5, 3]) = true by decide]
 clear B9 HU
 go_wp2_with fail
 refine (O3.out _).mono ?_
 rintro _ w37 ⟨rfl, q37⟩
 replace HTB := hid (HTB.out.later q37)
 replace HV := hid (HV.out.later q37)
 replace HX := hid (HX.out.later q37)
 replace QQ := hid (QQ.out.trans (q37.mono QQ.out.size))
 clear q37
 have q38 := newA w37 (.cells #[.int .u64 3, .int .u64 0, .int .u64 0, .int .u64 0] 24)
 have B10 := hid (made_ofC w37 [3] [.int .u64 3, .int .u64 0, .int .u64 0, .int .u64 0] rfl (small_wC (by decide)) (by decide))
 replace HTB := hid (HTB.out.later q38)
 replace HV := hid (HV.out.later q38)
 replace HX := hid (HX.out.later q38)
 replace QQ := hid (QQ.out.trans (q38.mono QQ.out.size))
 clear q38
 go_wp2_with fail
 refine (same_words _ _ _ [3] [3] HV.out B10.out).mono ?_
 rintro _ w39 ⟨rfl, q⟩
 replace HTB := hid (HTB.out.later q)
 replace HV := hid (HV.out.later q)
 replace HX := hid (HX.out.later q)
 replace B10 := hid (B10.out.later q)
 replace QQ := hid (QQ.out.trans (q.mono QQ.out.size))
 clear q
 rw [show decide (([3] : List Nat) = [3]) = true by decide]
 clear B10 HV
 go_wp2_with fail
 refine (O2.out _).mono ?_
 rintro _ w40 ⟨rfl, q40⟩
 replace HTB := hid (HTB.out.later q40)
 replace HX := hid (HX.out.later q40)
 replace QQ := hid (QQ.out.trans (q40.mono QQ.out.size))
 clear q40
 have q41 := newA w40 (.cells #[.int .u64 2, .int .u64 0, .int .u64 0, .int .u64 0] 24)
 have B11 := hid (made_ofC w40 [2] [.int .u64 2, .int .u64 0, .int .u64 0, .int .u64 0] rfl (small_wC (by decide)) (by decide))
 replace HTB := hid (HTB.out.later q41)
 replace HX := hid (HX.out.later q41)
 replace QQ := hid (QQ.out.trans (q41.mono QQ.out.size))
 clear q41
 go_wp2_with fail
 refine (same_words _ _ _ [2] [2] HX.out B11.out).mono ?_
 rintro _ w42 ⟨rfl, q⟩
 replace HTB := hid (HTB.out.later q)
 replace HX := hid (HX.out.later q)
 replace B11 := hid (B11.out.later q)
 replace QQ := hid (QQ.out.trans (q.mono QQ.out.size))
 clear q
 rw [show decide (([2] : List Nat) = [2]) = true by decide]
 clear B11 HX
 go_wp2_with fail
 refine (is_any 29 (by decide) _).mono ?_
 rintro _ w43 ⟨rfl, rfl⟩
 rw [show isOp 29 = true by decide]
 go_wp2_with fail
 refine (is_any 95 (by decide) _).mono ?_
 rintro _ w44 ⟨rfl, rfl⟩
 rw [show isOp 95 = false by decide]
 go_wp2
 go_ret
 exact ⟨rfl, QQ.out⟩
end
section
open Go Go.RowKit
attribute [local go_sem] Oper.semAt_some Grows wide_fn
theorem pick_ret16 (c : Int) (hc : I64 c) (m : Int) (hm : 0 < m) (hm2 : m ≤ 4611686018427387903) : Ret Tryz.prog 9 #[.int .i64 c, .int .i64 m] (.int .i64 (pickN c m)) := by
 refine Ret.of_same fun w => ?_
 unfold I64 at hc
 unfold pickN
 by_cases h : c < 0
 ·rw [if_pos h]
  have h0 : (0 : Int) ≤ -(c + 1) := by omega
  have h1 : -(c + 1) < 9223372036854775808 := by omega
  have q0 := Int.emod_nonneg (-(c + 1)) (show m ≠ 0 by omega)
  have q1 := Int.emod_lt_of_pos (-(c + 1)) hm
  have e := Int.tmod_eq_emod_of_nonneg h0 (b := m)
  go_enter Tryz.func9, Tryz.ntmps9
  go_wp2
  go_ret
  exact ⟨rfl, rfl⟩
 ·rw [if_neg h]
  have q0 := Int.emod_nonneg c (show m ≠ 0 by omega)
  have q1 := Int.emod_lt_of_pos c hm
  have e := Int.tmod_eq_emod_of_nonneg (show 0 ≤ c by omega) (b := m)
  go_enter Tryz.func9, Tryz.ntmps9
  go_wp2
  go_ret
  exact ⟨rfl, rfl⟩
theorem of_nat (k : Nat) (hk : k ≤ 100000) : Ret Tryz.prog 10 #[.int .i64 (k : Int)] (.agg #[.int .u64 (lim k 0), .int .u64 (lim k 1), .int .u64 (lim k 2), .int .u64 (lim k 3)]) :=
 (refOf_ret k (by unfold I64; omega)).of_eq rfl (by rw [ofN_nat]; rfl)
end
section
open Go Go.RowKit
attribute [local go_sem] Oper.semAt_some Grows wide_fn eq4
def preL (a b c : Nat) : Nat → List Nat
 | 0 => [7, c, b, a]
 | k + 1 => k :: preL a b c k
def ninL (l : List Nat) : Nat → List Nat
 | 0 => l
 | m + 1 => 9 :: ninL l m
def lenOfC : Value → Nat
 | .slice _ n _ => n
 | _ => 0
theorem preL_length (a b c k : Nat) : (preL a b c k).length = k + 4 := by
 induction k with
 | zero => rfl
 | succ k ih => simp [preL, ih]
theorem ninL_length (l : List Nat) (m : Nat) : (ninL l m).length = m + l.length := by
 induction m with
 | zero => simp [ninL]
 | succ m ih => simp [ninL, ih]; omega
theorem preL_end (a b c k : Nat) : ∃ p, preL a b c k = p ++ [b, a] ∧ p.length = k + 2 := by
 induction k with
 | zero => exact ⟨[7, c], rfl, rfl⟩
 | succ k ih => obtain ⟨p, h, hl⟩ := ih; exact ⟨k :: p, by simp [preL, h], by simp [hl]⟩
theorem ninL_end (l : List Nat) (m : Nat) (p : List Nat) (a b : Nat) (h : l = p ++ [b, a]) : ∃ q, ninL l m = q ++ [b, a] ∧ q.length = m + p.length := by
 induction m with
 | zero => exact ⟨p, h, by simp⟩
 | succ m ih => obtain ⟨q, h, hl⟩ := ih; exact ⟨9 :: q, by simp [ninL, h], by simp [hl]; omega⟩
theorem run_fromW (y : World) (a : Option Addr) (N cap k : Nat) (hk : k ≤ N) (hc : N ≤ cap) (_hm : k ≤ 4611686018427387903) : (Instr.slice 27 (.slice a N cap) (some (.int .i64 (k : Int))) none none).run Tryz.prog y = .ok (.slice (fromW a cap k) (N - k) (cap - k)) y := by
 have hu := run_underlying Tryz.underlying27 (w := y)
 have hz := Tryz.sizeOf24
 unfold fromW
 by_cases hcc : k = cap
 ·subst hcc
  simp [Instr.slice, Instr.sliceBounds, Instr.sliceBound, asIntOf, hu, hz, hk]
 ·have hcc' : ¬ cap = k := fun e => hcc e.symm
  simp [Instr.slice, Instr.sliceBounds, Instr.sliceBound, asIntOf, hu, hz, hk, hcc, hcc']
theorem run_fromWA (y : World) (a : Option Addr) (N cap k : Nat) (hk : k ≤ N) (hc : N ≤ cap) (hm : k ≤ 4611686018427387903) : (Instr.sliceAt 27 (.slice a N cap) (some (.int .i64 (k : Int))) none none).run Tryz.prog y = .ok (.slice (fromW a cap k) (N - k) (cap - k)) y := by
 have h := run_fromW y a N cap k hk hc hm
 have hu := run_underlying Tryz.underlying27 (w := y)
 have hz := Tryz.sizeOf24
 unfold fromW at *
 by_cases hcc : k = cap
 ·subst hcc
  simp [Instr.sliceAt, Instr.slice, Instr.sliceBounds, Instr.sliceBound, asIntOf, hu, hz, hk]
 ·have hcc' : ¬ cap = k := fun e => hcc e.symm
  simp [Instr.sliceAt, Instr.slice, Instr.sliceBounds, Instr.sliceBound, asIntOf, hu, hz, hk, hcc, hcc']
theorem wpQuiet_sliceW {ops : Array Oper} {C : World → Prop} {rest : List Oper} {o : Oper} {a : Act} {Q : Act → Prop} (hw : Region.wanted o (yielded ops a.tmps) = true) (x l : Operand) (ho : o.op = .slice 27 x (some l) none none) (b : Option Addr) (N cap k : Nat) (ki : Int) (sv : Value) (hx : a.eval x = .slice b N cap) (hl : a.eval l = .int .i64 ki) (hki : ki = (k : Int)) (hs : Value.slice (fromW b cap k) (N - k) (cap - k) = sv) (hk : k ≤ N) (hc : N ≤ cap) (hm : k ≤ 4611686018427387903)
  (h : wpQuiet Tryz.prog ops C Q rest (a.put o.dst sv)) : wpQuiet Tryz.prog ops C Q (o :: rest) a :=
 BigFrame.wpQuiet_want hw fun K hK => ⟨sv, fun w _ => by
  unfold Oper.quietAt execOp
  simp only [ho, Sem.run_bind, Sem.run_pure, Result.andThen_ok, Option.map_some, Option.map_none, hx, hl, hki, run_fromWA w b N cap k hk hc hm, hs]
  exact ⟨rfl, rfl⟩, hK _ h⟩
theorem drop1 (l pl : List Nat) (a b N : Nat) (h : l = pl ++ [b, a]) (hn : l.length = N) : l.drop (N - 1) = [a] := by
 subst h
 have e : N - 1 = pl.length + 1 := by simp at hn; omega
 rw [e]; simp [List.drop_append]
theorem drop2 (l pl : List Nat) (a b N : Nat) (h : l = pl ++ [b, a]) (hn : l.length = N) : l.drop (N - 2) = [b, a] := by
 subst h
 have e : N - 2 = pl.length := by simp at hn; omega
 rw [e]; simp
def RowI (w0 V : World) (g : Nat) (la : Option Addr) (N lc : Nat) (a1 : Option Addr) (m1 c1 : Nat) (a2 : Option Addr) (m2 c2 : Nat) (L : List Nat) (a b : Nat) : Prop :=
 Tab V ∧ Has V g 27 #[.slice la N lc, .slice a1 m1 c1, .slice a2 m2 c2, .slice none 0 0] ∧ WdsAt V (.slice la N lc) L ∧ WdsAt V (.slice a1 m1 c1) [a] ∧ WdsAt V (.slice a2 m2 c2) [b, a] ∧ WdsAt V (.slice none 0 0) [] ∧ Below w0.heap.size w0 V
section
variable {w0 V : World} {g : Nat} {la : Option Addr} {N lc : Nat} {a1 : Option Addr} {m1 c1 : Nat} {a2 : Option Addr} {m2 c2 : Nat} {L : List Nat} {a b : Nat}
theorem RowI.later {V' : World} (h : RowI w0 V g la N lc a1 m1 c1 a2 m2 c2 L a b) (q : Below V.heap.size V V') : RowI w0 V' g la N lc a1 m1 c1 a2 m2 c2 L a b :=
 let ⟨h1, h2, h3, h4, h5, h6, h7⟩ := h
 ⟨h1.later q, h2.later q, h3.later q, h4.later q, h5.later q, h6.later q, h7.trans (q.mono h7.size)⟩
theorem RowI.below (h : RowI w0 V g la N lc a1 m1 c1 a2 m2 c2 L a b) : Below w0.heap.size w0 V := h.2.2.2.2.2.2
theorem RowI.world (_ : RowI w0 V g la N lc a1 m1 c1 a2 m2 c2 L a b) : ∃ V', V' = V := ⟨V, rfl⟩
theorem RowI.elt (h : RowI w0 V g la N lc a1 m1 c1 a2 m2 c2 L a b) (hL : L.length ≤ 10000) {j : Nat} (hj : j < 4) : ∃ a3 m3 c3 l, V.cell? ⟨g, j, none⟩ = some (.slice a3 m3 c3) ∧ WdsAt V (.slice a3 m3 c3) l ∧ l.length ≤ 10000 := by
 obtain ⟨h1, h2, h3, h4, h5, h6, h7⟩ := h
 rcases (show j = 0 ∨ j = 1 ∨ j = 2 ∨ j = 3 by omega) with rfl | rfl | rfl | rfl
 ·exact ⟨_, _, _, _, h2.cell 0 _ rfl, h3, hL⟩
 ·exact ⟨_, _, _, _, h2.cell 1 _ rfl, h4, by simp⟩
 ·exact ⟨_, _, _, _, h2.cell 2 _ rfl, h5, by simp⟩
 ·exact ⟨_, _, _, _, h2.cell 3 _ rfl, h6, by simp⟩
end
theorem the_world {V : World} {v : Value} {l : List Nat} (_ : WdsAt V v l) : ∃ V', V' = V := ⟨V, rfl⟩
theorem nil_words (w : World) : WdsAt w (.slice none 0 0) [] := (WdRow.nil w 0).keys (by simp)
theorem same_self (W : World) (sa sb : Value) (l : List Nat) (ha : WdsAt W sa l) (hb : WdsAt W sb l) : Calls Tryz.prog 13 #[sa, sb] W fun e w' => e = .returned (.bool true) ∧ Below W.heap.size W w' :=
 (same_words W sa sb l l ha hb).mono fun e w' ⟨h, q⟩ => ⟨by rw [h, decide_eq_true rfl], q⟩
theorem tells_w (W : World) (hT : Tab W) (op dp : Int) (a b c x n g : Nat) (great : Bool) (ha : W256 a) (hb : W256 b) (hc : W256 c) (hop : I64 op) (hdp : I64 dp) (hp : pickN op 256 = (x : Int)) (hx : x < 256) (hd : pickN dp 20 = (n : Int)) (hn : n < 20) (hd2 : pickN dp 4 = (g : Int)) (hg : g < 4) :
  Calls Tryz.prog 3 #[.int .i64 op, wv a, wv b, wv c, .int .i64 dp, .bool great] W fun e w' => e = .returned (.bool true) ∧ Below W.heap.size W w' := by
 have hmx : Tryz.prog.follows .mixedOrders = true := by kernel_rfl
 have HTB := hid hT
 have Va := hid ha
 have Vb := hid hb
 have Vc := hid hc
 have V7 := hid (show W256 7 by unfold W256; omega)
 have HPK := hid (pick_ret16 op hop 256 (by decide) (by decide))
 have HPD := hid (pick_ret16 dp hdp 20 (by decide) (by decide))
 have HPG := hid (pick_ret16 dp hdp 4 (by decide) (by decide))
 rw [hp] at HPK
 rw [hd] at HPD
 rw [hd2] at HPG
 have HX := hid hx
 have HN := hid hn
 have HG := hid hg
 have x0 : (0 : Int) ≤ (x : Int) := by omega
 have x1 : (x : Int) < 256 := by omega
 have g0 : (0 : Int) ≤ (g : Int) := by omega
 have g1 : (g : Int) < 4 := by omega
 clear hT ha hb hc hop hdp hp hx hd hn hd2 hg
 unfold wv
 go_enter Tryz.func3, Tryz.ntmps3
 have q1 := newA W (.cells (Go.Proofs.YtnkhmgmganejmaaGreatDoor.w4 (lim a)) 24)
 have HAt := Has.new W 24 (Go.Proofs.YtnkhmgmganejmaaGreatDoor.w4 (lim a))
 try simp only [World.size_alloc] at HAt
 have HA := hid HAt
 clear HAt
 replace HTB := hid (HTB.out.later q1)
 have QQ := hid q1
 clear q1
 have LB := hid QQ.out.size
 have q2 := (Below.refl (W.alloc (.cells (Go.Proofs.YtnkhmgmganejmaaGreatDoor.w4 (lim a)) 24)).heap.size (W.alloc (.cells (Go.Proofs.YtnkhmgmganejmaaGreatDoor.w4 (lim a)) 24))).alloc (Nat.le_refl _) (.cells (Go.Proofs.YtnkhmgmganejmaaGreatDoor.w4 (lim b)) 24)
 have HBt := Has.new (W.alloc (.cells (Go.Proofs.YtnkhmgmganejmaaGreatDoor.w4 (lim a)) 24)) 24 (Go.Proofs.YtnkhmgmganejmaaGreatDoor.w4 (lim b))
 try simp only [World.size_alloc] at HBt
 have HB := hid HBt
 clear HBt
 replace HTB := hid (HTB.out.later q2)
 replace HA := hid (HA.out.later q2)
 replace QQ := hid (QQ.out.trans (q2.mono QQ.out.size))
 clear q2
 have LC := hid QQ.out.size
 have q3 := (Below.refl ((W.alloc (.cells (Go.Proofs.YtnkhmgmganejmaaGreatDoor.w4 (lim a)) 24)).alloc (.cells (Go.Proofs.YtnkhmgmganejmaaGreatDoor.w4 (lim b)) 24)).heap.size ((W.alloc (.cells (Go.Proofs.YtnkhmgmganejmaaGreatDoor.w4 (lim a)) 24)).alloc (.cells (Go.Proofs.YtnkhmgmganejmaaGreatDoor.w4 (lim b)) 24))).alloc (Nat.le_refl _) (.cells (Go.Proofs.YtnkhmgmganejmaaGreatDoor.w4 (lim c)) 24)
 have HCt := Has.new ((W.alloc (.cells (Go.Proofs.YtnkhmgmganejmaaGreatDoor.w4 (lim a)) 24)).alloc (.cells (Go.Proofs.YtnkhmgmganejmaaGreatDoor.w4 (lim b)) 24)) 24 (Go.Proofs.YtnkhmgmganejmaaGreatDoor.w4 (lim c))
 try simp only [World.size_alloc] at HCt
 have HC := hid HCt
 clear HCt
 replace HTB := hid (HTB.out.later q3)
 replace HA := hid (HA.out.later q3)
 replace HB := hid (HB.out.later q3)
 replace QQ := hid (QQ.out.trans (q3.mono QQ.out.size))
 clear q3
 go_wp2_with fail
 refine (awake_any _ HTB.out).mono ?_
 rintro _ w4 ⟨rfl, q⟩
 replace HTB := hid (HTB.out.later q)
 replace HA := hid (HA.out.later q)
 replace HB := hid (HB.out.later q)
 replace HC := hid (HC.out.later q)
 replace QQ := hid (QQ.out.trans (q.mono QQ.out.size))
 clear q
 go_wp2_with fail
 refine (HPK.out _).mono ?_
 rintro _ w5 ⟨rfl, q5⟩
 replace HTB := hid (HTB.out.later q5)
 replace HA := hid (HA.out.later q5)
 replace HB := hid (HB.out.later q5)
 replace HC := hid (HC.out.later q5)
 replace QQ := hid (QQ.out.trans (q5.mono QQ.out.size))
 clear q5
 obtain ⟨kA0, kA1, kA2, kA3⟩ := Go.Proofs.YtnkhmgmganejmaaGreatDoor.c4 HA.out
 obtain ⟨kB0, kB1, kB2, kB3⟩ := Go.Proofs.YtnkhmgmganejmaaGreatDoor.c4 HB.out
 obtain ⟨kC0, kC1, kC2, kC3⟩ := Go.Proofs.YtnkhmgmganejmaaGreatDoor.c4 HC.out
 have q6 := newA w5 (.cells #[.int .u64 7, .int .u64 0, .int .u64 0, .int .u64 0, .int .u64 (lim c 0), .int .u64 (lim c 1), .int .u64 (lim c 2), .int .u64 (lim c 3), .int .u64 (lim b 0), .int .u64 (lim b 1), .int .u64 (lim b 2), .int .u64 (lim b 3), .int .u64 (lim a 0), .int .u64 (lim a 1), .int .u64 (lim a 2), .int .u64 (lim a 3)] 24)
 have S1t := made_ofC w5 [7, c, b, a] [.int .u64 7, .int .u64 0, .int .u64 0, .int .u64 0, .int .u64 (lim c 0), .int .u64 (lim c 1), .int .u64 (lim c 2), .int .u64 (lim c 3), .int .u64 (lim b 0), .int .u64 (lim b 1), .int .u64 (lim b 2), .int .u64 (lim b 3), .int .u64 (lim a 0), .int .u64 (lim a 1), .int .u64 (lim a 2), .int .u64 (lim a 3)] rfl (by simp only [List.mem_cons, List.not_mem_nil, or_false, forall_eq_or_imp, forall_eq]; exact ⟨V7.out, Vc.out, Vb.out, Va.out⟩) (by simp)
 try simp only [World.size_alloc] at S1t
 have S1 := hid S1t
 clear S1t
 replace HTB := hid (HTB.out.later q6)
 replace HA := hid (HA.out.later q6)
 replace HB := hid (HB.out.later q6)
 replace HC := hid (HC.out.later q6)
 replace QQ := hid (QQ.out.trans (q6.mono QQ.out.size))
 clear q6
 obtain ⟨w0, hw0⟩ : ∃ w, (w5.alloc (.cells #[.int .u64 7, .int .u64 0, .int .u64 0, .int .u64 0, .int .u64 (lim c 0), .int .u64 (lim c 1), .int .u64 (lim c 2), .int .u64 (lim c 3), .int .u64 (lim b 0), .int .u64 (lim b 1), .int .u64 (lim b 2), .int .u64 (lim b 3), .int .u64 (lim a 0), .int .u64 (lim a 1), .int .u64 (lim a 2), .int .u64 (lim a 3)] 24)) = w := ⟨_, rfl⟩
 have HW0 := hid hw0
 rw [hw0] at HTB HA HB HC S1 QQ
 clear hw0 HA HB HC
 have HL0 := hid (show WdsAt w0 _ (preL a b c 0) from S1.out)
 go_wp2_with fail
 rw [HW0.out]
 clear kA0 kA1 kA2 kA3 kB0 kB1 kB2 kB3 kC0 kC1 kC2 kC3
 clear HW0
 go_loopw [15, 16] (fun lv i wr => ∃ k : Nat, k ≤ n ∧ i = .int .i64 (k : Int) ∧ WdsAt wr lv (preL a b c k) ∧ Below w0.heap.size w0 wr) (fun _ i _ => 20 - (intOf i).toNat)
 case atStart => exact ⟨0, by omega, rfl, HL0.out, Below.refl _ _⟩
 case round =>
  obtain ⟨k, hk, rfl, hrow, hq⟩ := hrel
  obtain ⟨lv, hlv⟩ : ∃ lv, lv = u15 := ⟨_, rfl⟩
  subst hlv
  have HROW := hid hrow
  have HQ := hid hq
  clear hrow hq
  go_wp2_with fail
  refine (HPD.out _).mono ?_
  rintro _ wp ⟨rfl, qp⟩
  replace HROW := hid (HROW.out.later qp)
  replace HQ := hid (HQ.out.trans (qp.mono HQ.out.size))
  clear qp
  by_cases hlt : k < n
  ·have hltI : (k : Int) < (n : Int) := by omega
   have k20 : (k : Int) < 20 := by have := HN.out; omega
   have k0 : (0 : Int) ≤ (k : Int) := by omega
   have HOF := hid (of_nat k (by have := HN.out; omega))
   have HKN := hid (show k < n from hlt)
   clear hk hlt
   go_wp2_with fail
   refine (HOF.out _).mono ?_
   rintro _ wq ⟨rfl, qq⟩
   have HROW2 := HROW.out.later qq
   have Q2 := HQ.out.trans (qq.mono HQ.out.size)
   have R3 := made_row wq [k] (by simp)
   have q3 := newA wq (.cells (Go.Proofs.YtnkhmgmganejmaaGreatDoor.w4 (lim k)) 24)
   obtain ⟨v4, w4, happ4, hrow4, _, hb4⟩ := append_words (wq.alloc (.cells (Go.Proofs.YtnkhmgmganejmaaGreatDoor.w4 (lim k)) 24)) wq.heap.size _ [k] R3 q3.size lv _ (HROW2.later q3) (by rw [preL_length]; have := HKN.out; have := HN.out; simp; omega)
   have HR4 := hid (show WdsAt w4 v4 (preL a b c (k + 1)) from hrow4.keys (fun y hy => (List.mem_append.1 hy).elim (fun h => by simp at h; subst h; have := HKN.out; have := HN.out; unfold W256; omega) (HROW.out.all y)))
   have HQ4 := hid (Q2.trans ((q3.trans hb4).mono Q2.size))
   clear qq HROW2 Q2 R3 q3 hrow4 hb4
   go_wp2_with (at_builtin; refine wpList_append_runW rfl (.tmp 40) (.tmp 41) 27 rfl _ _ _ rfl rfl happ4 ?_)
   go_roundw
   case rel => exact ⟨k + 1, by have := HKN.out; omega, by simp, HR4.out, HQ4.out⟩
   case measure => have := HKN.out; have := HN.out; simp [intOf]; omega
  ·obtain rfl : k = n := by omega
   have hkn : ¬ (k : Int) < (k : Int) := by omega
   have HROW1 := HROW
   have HQ1 := HQ
   clear hk hlt HROW HQ HL0
   obtain ⟨p0, hp0, hpl⟩ := preL_end a b c k
   have HP0 := hid (And.intro hp0 hpl)
   have HPL := hid (preL_length a b c k)
   clear hp0 hpl
   obtain ⟨P, hP⟩ : ∃ P, preL a b c k = P := ⟨_, rfl⟩
   rw [hP] at HROW1 HP0 HPL
   clear hP
   go_wp2_with fail
   go_loopw [15] (fun lv2 wr2 => ∃ m : Nat, WdsAt wr2 lv2 (ninL P m) ∧ Below w0.heap.size w0 wr2 ∧ m + P.length ≤ 1025) (fun lv2 _ => 1026 - lenOfC lv2)
   case atStart => exact ⟨0, HROW1.out, HQ1.out, by rw [HPL.out]; have := HN.out; omega⟩
   case round =>
    obtain ⟨m, hrow, hq, hm⟩ := hrel
    have HROW := hid hrow
    have HQ := hid hq
    have HM := hid hm
    have HNL := hid (ninL_length P m)
    obtain ⟨la, lc, hlv, hlc, _⟩ := hrow.shape
    obtain ⟨N, hN⟩ : ∃ N, (ninL P m).length = N := ⟨_, rfl⟩
    rw [hN] at hlv hlc HNL
    have HNN := hid hN
    obtain ⟨lv, hlvv⟩ : ∃ lv, lv = u15 := ⟨_, rfl⟩
    rw [← hlvv] at hlv HROW ⊢
    have HLV := hid hlv
    have n0 : (0 : Int) ≤ (N : Int) := by omega
    have n1 : (N : Int) ≤ 1025 := by have := HNL.out; omega
    have n4 : 4 ≤ N := by have := HNL.out; have := HPL.out; omega
    clear hlvv hrow hq hm
    subst hlv
    clear hN
    have kc : great = true ∨ great = false := by cases great <;> simp
    by_cases hgo : great = true ∧ N < 1022 + g
    ·obtain ⟨rfl, hlt⟩ := hgo
     have hltI : (N : Int) < 1022 + (g : Int) := by omega
     clear kc
     go_wp2_with fail
     refine (HPG.out _).mono ?_
     rintro _ wq ⟨rfl, qq⟩
     have HROW2 := HROW.out.later qq
     have Q2 := HQ.out.trans (qq.mono HQ.out.size)
     have R3 := made_row wq [9] (by simp)
     have q3 := newA wq (.cells #[.int .u64 9, .int .u64 0, .int .u64 0, .int .u64 0] 24)
     obtain ⟨v4, w4, happ4, hrow4, _, hb4⟩ := append_words (wq.alloc (.cells #[.int .u64 9, .int .u64 0, .int .u64 0, .int .u64 0] 24)) wq.heap.size _ [9] R3 q3.size _ _ (HROW2.later q3) (by rw [HNN.out]; simp; omega)
     have HR4 := hid (show WdsAt w4 v4 (ninL P (m + 1)) from hrow4.keys (fun y hy => (List.mem_append.1 hy).elim (fun h => by simp at h; subst h; unfold W256; omega) (HROW.out.all y)))
     have HQ4 := hid (Q2.trans ((q3.trans hb4).mono Q2.size))
     have HLT := hid hlt
     clear qq HROW2 Q2 R3 q3 hrow4 hb4 hlt
     go_wp2_with (at_builtin; refine wpList_append_runW rfl (.tmp 53) (.tmp 54) 27 rfl _ _ _ rfl rfl happ4 ?_)
     go_roundw
     case rel => exact ⟨m + 1, HR4.out, HQ4.out, by have := HNL.out; have := HLT.out; have := HG.out; omega⟩
     case measure =>
      obtain ⟨b4, c4, e4, _, _⟩ := HR4.out.shape
      rw [e4]
      have h1 : (ninL P (m + 1)).length = N + 1 := by rw [ninL_length]; have := HNL.out; omega
      simp only [lenOfC, h1]
      have := HLT.out; have := HG.out; omega
    ·have key : great = false ∨ (great = true ∧ ¬ (N : Int) < 1022 + (g : Int)) := by
      rcases kc with h | h
      ·exact .inr ⟨h, fun e => hgo ⟨h, by omega⟩⟩
      ·exact .inl h
     obtain ⟨pl, hpl, hpll⟩ := ninL_end P m p0 a b HP0.out.1
     have HPL2 := hid (And.intro hpl hpll)
     clear hgo kc hpl hpll
     rcases key with rfl | ⟨rfl, hng⟩
     ·skip
      go_wp2_with fail
      obtain ⟨wr2, hwz⟩ := the_world HROW.out
      subst hwz
      have T0 := HTB.out.later HQ.out
      have R0 := HROW.out
      have Q0 := HQ.out
      have R1 := R0.fromW (N - 1) (by omega)
      have R2 := R0.fromW (N - 2) (by omega)
      rw [drop1 _ pl a b N HPL2.out.1 HNN.out] at R1
      rw [drop2 _ pl a b N HPL2.out.1 HNN.out] at R2
      obtain ⟨a1, m1, c1, hs1⟩ : ∃ a n c, Value.slice (fromW la lc (N - 1)) (N - (N - 1)) (lc - (N - 1)) = .slice a n c := ⟨_, _, _, rfl⟩
      obtain ⟨a2, m2, c2, hs2⟩ : ∃ a n c, Value.slice (fromW la lc (N - 2)) (N - (N - 2)) (lc - (N - 2)) = .slice a n c := ⟨_, _, _, rfl⟩
      rw [hs1] at R1
      rw [hs2] at R2
      replace T0 := hid T0
      replace R0 := hid R0
      replace R1 := hid R1
      replace R2 := hid R2
      replace Q0 := hid Q0
      have HS1 := hid hs1
      have HS2 := hid hs2
      have HLC := hid hlc
      clear hs1 hs2 hlc HTB HQ HROW
      refine wp_region_mix (C := Grows wr2) [some true, some true, some true, some true, some true, some true, some true, some true, some true, some true, some true, none, none, some false] hmx (by kernel_rfl) (by kernel_rfl) (grows_refl wr2) ?_
      simp only [headOf, tailOf]
      repeat (first | (with_reducible refine wpQuiet_sliceW rfl _ _ rfl la N lc (N - 1) _ (.slice a1 m1 c1) rfl rfl (by omega) HS1.out (by omega) HLC.out (by omega) ?_; simp only [Act.put, sT, sS, sZ]) | (with_reducible refine wpQuiet_sliceW rfl _ _ rfl la N lc (N - 2) _ (.slice a2 m2 c2) rfl rfl (by omega) HS2.out (by omega) HLC.out (by omega) ?_; simp only [Act.put, sT, sS, sZ]) | (go_big_quiet_step (fail)))
      refine wpQuiet_nil ?_
      rintro _ ⟨xx, rfl⟩
      have q2 := xx.below.trans ((newA xx.w (.cells #[.slice la N lc, .slice a1 m1 c1, .slice a2 m2 c2, .slice none 0 0] 27)).mono xx.below.size)
      have I := hid (show RowI w0 _ xx.w.heap.size la N lc a1 m1 c1 a2 m2 c2 (ninL P m) a b from ⟨T0.out.later q2, Has.new xx.w 27 #[.slice la N lc, .slice a1 m1 c1, .slice a2 m2 c2, .slice none 0 0], R0.out.later q2, R1.out.later q2, R2.out.later q2, nil_words (xx.w.alloc (.cells #[.slice la N lc, .slice a1 m1 c1, .slice a2 m2 c2, .slice none 0 0] 27)), Q0.out.trans (q2.mono Q0.out.size)⟩)
      clear q2 T0 R0 R1 R2 Q0
      go_wp2
      rw [calmPost_normal]
      go_wp2_with fail
      obtain ⟨V0, hV0⟩ : ∃ V, (xx.w.alloc (.cells #[.slice la N lc, .slice a1 m1 c1, .slice a2 m2 c2, .slice none 0 0] 27)) = V := ⟨_, rfl⟩
      rw [hV0] at I ⊢
      clear hV0
      obtain ⟨g0, hg0⟩ : ∃ g, xx.w.heap.size = g := ⟨_, rfl⟩
      rw [hg0] at I ⊢
      clear hg0
      go_loopw [69] (fun i V => ∃ j : Nat, j ≤ 4 ∧ i = .int .i64 (j : Int) ∧ RowI w0 V g0 la N lc a1 m1 c1 a2 m2 c2 (ninL P m) a b) (fun i _ => 5 - (intOf i).toNat)
      case atStart => exact ⟨0, by omega, rfl, I.out⟩
      case round =>
       clear I
       obtain ⟨j, hj, rfl, hI⟩ := hrel
       obtain ⟨V, hwz⟩ := hI.world
       subst hwz
       have I := hid hI
       have HJ := hid hj
       clear hI
       by_cases hlt : j < 4
       ·have hltI : (j : Int) < 4 := by omega
        have j0 : (0 : Int) ≤ (j : Int) := by omega
        obtain ⟨a3, m3, c3, l, c0, hw, hl⟩ := I.out.elt (by rw [HNN.out]; omega) hlt
        have HW := hid hw
        have HL := hid hl
        have HLT := hid hlt
        clear hj hlt hw hl
        go_wp2_with fail
        clear c0
        obtain ⟨l1, hl1⟩ : ∃ z, doL x l = z := ⟨_, rfl⟩
        obtain ⟨e1, he1⟩ : ∃ e, doE x l = e := ⟨_, rfl⟩
        refine (do_any _ I.out.1 _ _ x HX.out HW.out HL.out).mono ?_
        rintro _ X1 ⟨p1, rfl, k1, q1⟩
        rw [hl1] at k1
        rw [he1]
        replace I := hid (I.out.later q1)
        replace HW := hid (HW.out.later q1)
        clear q1
        replace k1 := hid k1
        go_wp2_with fail
        refine (rdo_any _ _ _ x HX.out HW.out HL.out).mono ?_
        rintro _ X2 ⟨p2, rfl, k2, q2⟩
        rw [hl1] at k2
        rw [he1]
        replace I := hid (I.out.later q2)
        replace k1 := hid (k1.out.later q2)
        replace k2 := hid k2
        clear q2 hl1 he1 HW
        go_wp2_with fail
        refine (same_self _ _ _ _ k1.out k2.out).mono ?_
        rintro _ X3 ⟨rfl, q3⟩
        clear k1 k2
        replace I := hid (I.out.later q3)
        clear q3
        go_wp2_with fail
        refine (is_any x HX.out _).mono ?_
        rintro _ X4 ⟨rfl, rfl⟩
        go_wp2_with fail
        refine (ris_any x HX.out _).mono ?_
        rintro _ X5 ⟨rfl, rfl⟩
        go_wp2_with fail
        go_roundw
        case rel => exact ⟨j + 1, by have := HLT.out; omega, by simp, I.out⟩
        case measure => have := HLT.out; simp [intOf]; omega
       ·obtain rfl : j = 4 := by omega
        go_wp2
        go_ret
        exact ⟨rfl, QQ.out.trans (I.out.below.mono QQ.out.size)⟩
     ·skip
      go_wp2_with fail
      refine (HPG.out _).mono ?_
      rintro _ W1 ⟨rfl, q1⟩
      go_wp2_with fail
      have T0 := HTB.out.later (HQ.out.trans (q1.mono HQ.out.size))
      have R0 := HROW.out.later q1
      have Q0 := HQ.out.trans (q1.mono HQ.out.size)
      clear q1
      have R1 := R0.fromW (N - 1) (by omega)
      have R2 := R0.fromW (N - 2) (by omega)
      rw [drop1 _ pl a b N HPL2.out.1 HNN.out] at R1
      rw [drop2 _ pl a b N HPL2.out.1 HNN.out] at R2
      obtain ⟨a1, m1, c1, hs1⟩ : ∃ a n c, Value.slice (fromW la lc (N - 1)) (N - (N - 1)) (lc - (N - 1)) = .slice a n c := ⟨_, _, _, rfl⟩
      obtain ⟨a2, m2, c2, hs2⟩ : ∃ a n c, Value.slice (fromW la lc (N - 2)) (N - (N - 2)) (lc - (N - 2)) = .slice a n c := ⟨_, _, _, rfl⟩
      rw [hs1] at R1
      rw [hs2] at R2
      replace T0 := hid T0
      replace R0 := hid R0
      replace R1 := hid R1
      replace R2 := hid R2
      replace Q0 := hid Q0
      have HS1 := hid hs1
      have HS2 := hid hs2
      have HLC := hid hlc
      clear hs1 hs2 hlc HTB HQ HROW
      refine wp_region_mix (C := Grows W1) [some true, some true, some true, some true, some true, some true, some true, some true, some true, some true, some true, none, none, some false] hmx (by kernel_rfl) (by kernel_rfl) (grows_refl W1) ?_
      simp only [headOf, tailOf]
      repeat (first | (with_reducible refine wpQuiet_sliceW rfl _ _ rfl la N lc (N - 1) _ (.slice a1 m1 c1) rfl rfl (by omega) HS1.out (by omega) HLC.out (by omega) ?_; simp only [Act.put, sT, sS, sZ]) | (with_reducible refine wpQuiet_sliceW rfl _ _ rfl la N lc (N - 2) _ (.slice a2 m2 c2) rfl rfl (by omega) HS2.out (by omega) HLC.out (by omega) ?_; simp only [Act.put, sT, sS, sZ]) | (go_big_quiet_step (fail)))
      refine wpQuiet_nil ?_
      rintro _ ⟨xx, rfl⟩
      have q2 := xx.below.trans ((newA xx.w (.cells #[.slice la N lc, .slice a1 m1 c1, .slice a2 m2 c2, .slice none 0 0] 27)).mono xx.below.size)
      have I := hid (show RowI w0 _ xx.w.heap.size la N lc a1 m1 c1 a2 m2 c2 (ninL P m) a b from ⟨T0.out.later q2, Has.new xx.w 27 #[.slice la N lc, .slice a1 m1 c1, .slice a2 m2 c2, .slice none 0 0], R0.out.later q2, R1.out.later q2, R2.out.later q2, nil_words (xx.w.alloc (.cells #[.slice la N lc, .slice a1 m1 c1, .slice a2 m2 c2, .slice none 0 0] 27)), Q0.out.trans (q2.mono Q0.out.size)⟩)
      clear q2 T0 R0 R1 R2 Q0
      go_wp2
      rw [calmPost_normal]
      go_wp2_with fail
      obtain ⟨V0, hV0⟩ : ∃ V, (xx.w.alloc (.cells #[.slice la N lc, .slice a1 m1 c1, .slice a2 m2 c2, .slice none 0 0] 27)) = V := ⟨_, rfl⟩
      rw [hV0] at I ⊢
      clear hV0
      obtain ⟨g0, hg0⟩ : ∃ g, xx.w.heap.size = g := ⟨_, rfl⟩
      rw [hg0] at I ⊢
      clear hg0
      go_loopw [69] (fun i V => ∃ j : Nat, j ≤ 4 ∧ i = .int .i64 (j : Int) ∧ RowI w0 V g0 la N lc a1 m1 c1 a2 m2 c2 (ninL P m) a b) (fun i _ => 5 - (intOf i).toNat)
      case atStart => exact ⟨0, by omega, rfl, I.out⟩
      case round =>
       clear I
       obtain ⟨j, hj, rfl, hI⟩ := hrel
       obtain ⟨V, hwz⟩ := hI.world
       subst hwz
       have I := hid hI
       have HJ := hid hj
       clear hI
       by_cases hlt : j < 4
       ·have hltI : (j : Int) < 4 := by omega
        have j0 : (0 : Int) ≤ (j : Int) := by omega
        obtain ⟨a3, m3, c3, l, c0, hw, hl⟩ := I.out.elt (by rw [HNN.out]; omega) hlt
        have HW := hid hw
        have HL := hid hl
        have HLT := hid hlt
        clear hj hlt hw hl
        go_wp2_with fail
        clear c0
        obtain ⟨l1, hl1⟩ : ∃ z, doL x l = z := ⟨_, rfl⟩
        obtain ⟨e1, he1⟩ : ∃ e, doE x l = e := ⟨_, rfl⟩
        refine (do_any _ I.out.1 _ _ x HX.out HW.out HL.out).mono ?_
        rintro _ X1 ⟨p1, rfl, k1, q1⟩
        rw [hl1] at k1
        rw [he1]
        replace I := hid (I.out.later q1)
        replace HW := hid (HW.out.later q1)
        clear q1
        replace k1 := hid k1
        go_wp2_with fail
        refine (rdo_any _ _ _ x HX.out HW.out HL.out).mono ?_
        rintro _ X2 ⟨p2, rfl, k2, q2⟩
        rw [hl1] at k2
        rw [he1]
        replace I := hid (I.out.later q2)
        replace k1 := hid (k1.out.later q2)
        replace k2 := hid k2
        clear q2 hl1 he1 HW
        go_wp2_with fail
        refine (same_self _ _ _ _ k1.out k2.out).mono ?_
        rintro _ X3 ⟨rfl, q3⟩
        clear k1 k2
        replace I := hid (I.out.later q3)
        clear q3
        go_wp2_with fail
        refine (is_any x HX.out _).mono ?_
        rintro _ X4 ⟨rfl, rfl⟩
        go_wp2_with fail
        refine (ris_any x HX.out _).mono ?_
        rintro _ X5 ⟨rfl, rfl⟩
        go_wp2_with fail
        go_roundw
        case rel => exact ⟨j + 1, by have := HLT.out; omega, by simp, I.out⟩
        case measure => have := HLT.out; simp [intOf]; omega
       ·obtain rfl : j = 4 := by omega
        go_wp2
        go_ret
        exact ⟨rfl, QQ.out.trans (I.out.below.mono QQ.out.size)⟩
theorem pickN_nat (c m : Int) (hm : 0 < m) : ∃ x : Nat, pickN c m = (x : Int) ∧ (x : Int) < m :=
 ⟨(pickN c m).toNat, by have := pickN_range c m hm; omega, by have := pickN_range c m hm; omega⟩
theorem computeTells_any (W : World) (hT : Tab W) (op dp : Int) (a b c : Nat) (great : Bool) (ha : W256 a) (hb : W256 b) (hc : W256 c) (hop : I64 op) (hdp : I64 dp) :
  Calls Tryz.prog 3 #[.int .i64 op, wv a, wv b, wv c, .int .i64 dp, .bool great] W fun e w' => e = .returned (.bool true) ∧ Below W.heap.size W w' := by
 obtain ⟨x, hp, hx⟩ := pickN_nat op 256 (by decide)
 obtain ⟨n, hd, hn⟩ := pickN_nat dp 20 (by decide)
 obtain ⟨g, hd2, hg⟩ := pickN_nat dp 4 (by decide)
 exact tells_w W hT op dp a b c x n g great ha hb hc hop hdp hp (by omega) hd (by omega) hd2 (by omega)
end
section
open Go Go.ChangeShapes Go.WideShapes Go.ChangeAt Go.RowKit
theorem cellsU64 : Tryz.prog.cellsOf 22 = 1 := by kernel_rfl
theorem cellsWord : Tryz.prog.cellsOf 24 = 4 := by kernel_rfl
theorem list4 {α : Type} (l : List α) (h : (⟨l⟩ : Array α).size = 4) : ∃ a b c d, l = [a, b, c, d] := by
 match l, h with
 | [a, b, c, d], _ => exact ⟨a, b, c, d, rfl⟩
theorem u64_of_wf {x : Int} (h : (Lit.int .u64 x).wf = true) : U64 x := by
 have := bounds_u64 h
 unfold U64; omega
theorem word_of (x0 x1 x2 x3 : Int) (h0 : U64 x0) (h1 : U64 x1) (h2 : U64 x2) (h3 : U64 x3) : ∃ n, W256 n ∧ wv n = .agg #[.int .u64 x0, .int .u64 x1, .int .u64 x2, .int .u64 x3] := by
 obtain ⟨z, z0, z1, z2, z3⟩ : ∃ z : Nat → Int, z 0 = x0 ∧ z 1 = x1 ∧ z 2 = x2 ∧ z 3 = x3 := ⟨fun k => if k = 0 then x0 else if k = 1 then x1 else if k = 2 then x2 else x3, rfl, rfl, rfl, rfl⟩
 subst z0 z1 z2 z3
 obtain ⟨g0, g1⟩ := num_lt z h0 h1 h2 h3
 have en : num z = ((num z).toNat : Int) := (Int.toNat_of_nonneg g0).symm
 have e := lim_num z (num z).toNat h0 h1 h2 h3 en
 refine ⟨_, ?_, wv_of e⟩
 unfold W256
 rw [en] at g1
 exact Int.ofNat_lt.1 g1
theorem open_word {H : Type} {enc : TypeId × Value → H} {W : World} {base b : Nat} {sp : Nat → Bool} {held : Bool} {v : Value} {d : DataW H} {ps : List MemPlace}
  (hval : Value.okWide Tryz.prog W .any base 24 v) (hd : DataW.Trod enc Tryz.prog W b sp held 24 v d ps) :
  ∃ n, W256 n ∧ v = wv n ∧ ps = [] ∧ ∀ (W' : World) (b' : Nat) (sp' : Nat → Bool) (held' : Bool), DataW.Trod enc Tryz.prog W' b' sp' held' 24 (wv n) d [] := by
 obtain ⟨cs, rfl, hsz, _⟩ : ∃ cs, v = .agg cs ∧ cs.size = Tryz.prog.cellsOf 24 ∧ Row.okWide Tryz.prog W .any base 24 cs := by
  simpa [Value.okWide, Tryz.underlying24] using hval
 rw [cellsWord] at hsz
 obtain ⟨l⟩ := cs
 obtain ⟨c0, c1, c2, c3, rfl⟩ := list4 l hsz
 obtain ⟨fuel, hf⟩ := hd
 obtain ⟨y0, y1, y2, y3, m, hx, hy0, hy1, hy2, hy3⟩ := trod_array4 Tryz.underlying24 cellsU64 hf
 obtain ⟨x0, e0, rfl, w0⟩ := DataW.trod_int Tryz.underlying22 hy0
 obtain ⟨x1, e1, rfl, w1⟩ := DataW.trod_int Tryz.underlying22 hy1
 obtain ⟨x2, e2, rfl, w2⟩ := DataW.trod_int Tryz.underlying22 hy2
 obtain ⟨x3, e3, rfl, w3⟩ := DataW.trod_int Tryz.underlying22 hy3
 simp at e0 e1 e2 e3
 subst e0 e1 e2 e3
 simp only [Prod.mk.injEq] at hx
 obtain ⟨rfl, rfl⟩ := hx
 obtain ⟨n, hn, hv⟩ := word_of x0 x1 x2 x3 (u64_of_wf w0) (u64_of_wf w1) (u64_of_wf w2) (u64_of_wf w3)
 refine ⟨n, hn, hv.symm, rfl, fun W' b' sp' held' => ?_⟩
 rw [hv]
 exact ⟨2, by simp [DataW.trod, Value.cells, Tryz.underlying24, Tryz.underlying22, cellsWord, cellsU64, w0, w1, w2, w3, show List.range 4 = [0, 1, 2, 3] from rfl]⟩
theorem i64_of_wf {x : Int} (h : (Lit.int .i64 x).wf = true) : I64 x := by
 have := bounds_i64 h
 unfold I64; omega
theorem tabIs_of_second {P : Program} {W : World} {name : String} {k : IntKind} {zs : List Int} {fst : String × DataW Unit} {rest : List (String × DataW Unit)} {g : Nat} {t e : TypeId} {n : Nat}
  (hg : P.globalNamed name = some g) (hty : (P.globals[g]?).map (·.type) = some t) (ht : P.underlying t = some (.array n e)) (he : P.underlying e = some (.int k)) (hce : P.cellsOf e = 1) (hct : P.cellsOf t = n)
  (h : laidMet P (fst :: (name, Lib.tabData k zs) :: rest) W) : Lib.TabIs P W name k zs := by
 obtain ⟨ps, ⟨_, _, _, _, _, _, _, _, _, _, hrest, _⟩, _⟩ := h
 obtain ⟨g', t', cs, fuel, p, q, hg', ht', hvar, hd, _, _⟩ := hrest
 obtain rfl := Option.some.inj (hg.symm.trans hg')
 obtain rfl := Option.some.inj (hty.symm.trans ht')
 unfold Lib.TabIs
 rw [hvar, ← Lib.cells_of_tab ht he hce hct hd]
theorem tab_of_laid {W : World} (h : laidMetH Tryz.prog [("math/bits.deBruijn32tab", Rows.laid_math_bits_deBruijn32tab), ("math/bits.deBruijn64tab", Rows.laid_math_bits_deBruijn64tab), ("internal/strconv.uint64pow10", Rows.laid_internal_strconv_uint64pow10)] W) : Tab W := by
 rw [MakeChecks.laidMetH_plain _ _ _ (by kernel_rfl)] at h
 have hg : Tryz.prog.globalNamed "math/bits.deBruijn64tab" = some 0 := by kernel_rfl
 have hT := tabIs_of_second (k := .u8) (zs := deB) hg (show (Tryz.prog.globals[0]?).map (·.type) = some 177 by kernel_rfl) Tryz.underlying177 Tryz.underlying5 (by kernel_rfl) (by kernel_rfl) h
 have hc : ∀ i, i < 64 → W.cell? ⟨0, i, none⟩ = some (.int .u8 (deB.getD i 0)) := fun i hi => hT.cell hg i (by simpa [deB] using hi)
 refine ⟨?_, hc⟩
 have h0 := hc 0 (by omega)
 rcases Nat.lt_or_ge 0 W.heap.size with h' | h'
 ·exact h'
 ·simp [World.cell?, show W.heap.size = 0 by omega] at h0
end
section
open Go Go.ChangeShapes Go.WideShapes Go.ChangeAt Go.RowKit Go.Deep
theorem laidOutAll : laidOutB Tryz.prog = true := by kernel_rfl
theorem trodAll_below {H : Type} {enc : TypeId × Value → H} {W W' : World} (hb : Below W.heap.size W W') : ∀ {ts : List TypeId} {vs : List Value} {ds : List (DataW H)} {ps : List MemPlace},
  (∀ t ∈ ts, Tryz.prog.readableRec t = true ∧ t < Tryz.prog.types.size) → DataW.TrodAll enc Tryz.prog W 0 (fun _ => true) true ts vs ds ps → (∀ x ∈ ps, x.block < W.heap.size) →
  DataW.TrodAll enc Tryz.prog W' 0 (fun b => decide (b < W.heap.size)) true ts vs ds ps
 | [], [], [], _, _, h, _ => h
 | _ :: _, _ :: _, _ :: _, _, ht, ⟨p, q, h1, h2, e⟩, hs =>
  ⟨p, q, Below.trod laidOutAll (ht _ (List.mem_cons.2 (Or.inl rfl))).1 (ht _ (List.mem_cons.2 (Or.inl rfl))).2 h1 hb (fun x hx => hs x (by rw [e]; exact List.mem_append_left _ hx)),
   trodAll_below hb (fun t h => ht t (List.mem_cons.2 (Or.inr h))) h2 (fun x hx => hs x (by rw [e]; exact List.mem_append_right _ hx)), e⟩
theorem post_read {H : Type} {enc : TypeId × Value → H} {f : Func} {s : ChangeSpec} {W W' : World} {args : Array Value} {ds : List (DataW H)} {before : List MemPlace}
  (hW : DataW.Whole enc Tryz.prog f.params.toList s.vars false W args.toList ds [] before) (hvars : s.vars = []) (hft : f.resultTypes = #[4])
  (hfn : s.fn H ds = { results := [.lit (.bool true)], args := ds }) (hA : DataW.TrodAll enc Tryz.prog W 0 (fun _ => true) true f.params.toList args.toList ds before)
  (hts : (f.params.toList.all fun t => Tryz.prog.readableRec t && decide (t < Tryz.prog.types.size)) = true)
  (hb : Below W.heap.size W W') : s.post enc Tryz.prog f false true false false W args (.bool true) W' := by
 have e : (s.fn H (ds ++ [])) = { results := [.lit (.bool true)], args := ds } := by rw [List.append_nil]; exact hfn
 refine ⟨ds, [], before, [], before, [], hW, ?_, ?_, ?_, World.keptBut_mono (fun p hp => absurd hp (by simp)) (hb.frame (fun _ => False)), fun h => by cases h⟩
 ·rw [e, hft]
  exact trodAll_mk1 (shut_bool Tryz.underlying4 _)
 ·rw [e]
  exact trodAll_below hb (fun t ht => by
   have := List.all_eq_true.1 hts t ht
   simpa using this) hA (fun x hx => by simpa using hW.lt x hx)
 ·rw [e, hvars]
  rfl
end
end Go.Proofs.YtnkhmgmganejmaaGreatDoor
