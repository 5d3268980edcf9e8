/- Part. -/
import Derived.Test.YtkicmbdjihjgfaaGreatDoorH24
import Derived.Test.YtkicmbdjihjgfaaGreatDoorH27
import Derived.Test.YtkicmbdjihjgfaaGreatDoorH28
import Derived.LaidSub
import Derived.Lib.LaidTab
import Derived.Lay
import Derived.LaidLaws
import Derived.Test.YtkicmbdjihjgfaaGreatDoorRows
import Derived.ProofKit
import Derived.LaidMore
import Derived.OpenShut
import Derived.Stop.Joined
import Derived.ChangeSame
import Derived.Below
import Derived.Laws.IdiomArrays
import Derived.Deep.Slices
import Derived.ReadAgain
import Derived.Carry
import Derived.Test.YtkicmbdjihjgfaaGreatDoorH04
set_option maxRecDepth 100000
set_option maxHeartbeats 16000000
namespace Go.Proofs.YtkicmbdjihjgfaaGreatDoor
section
open Go Go.RowKit
attribute [local go_sem] Oper.semAt_some Grows wide_fn
theorem chBox (x : World) (u : Ch) : ∃ y, x.alloc (.cells #[.int .i64 0, .int .u8 0, .int .u8 0, .int .u8 0, .int .u8 0, .int .u8 0, .int .u8 0, .int .u8 0, .int .u8 0, .int .u8 0, .int .u8 0, .int .u8 0, .int .u8 0, .int .u8 0, .int .u8 0, .int .u8 0, .int .u8 0, .int .u8 0, .int .u8 0, .int .u8 0, .int .u8 0, .int .u64 0, .int .u64 0, .int .u64 0, .int .u64 0, .int .u64 0, .int .u64 0, .int .u64 0, .int .u64 0, .int .i64 0, .string { data := #[] }] 33) = y ∧ ∃ z, y.setRow x.heap.size (chC u) = z ∧ Has y x.heap.size 33 #[.int .i64 0, .int .u8 0, .int .u8 0, .int .u8 0, .int .u8 0, .int .u8 0, .int .u8 0, .int .u8 0, .int .u8 0, .int .u8 0, .int .u8 0, .int .u8 0, .int .u8 0, .int .u8 0, .int .u8 0, .int .u8 0, .int .u8 0, .int .u8 0, .int .u8 0, .int .u8 0, .int .u8 0, .int .u64 0, .int .u64 0, .int .u64 0, .int .u64 0, .int .u64 0, .int .u64 0, .int .u64 0, .int .u64 0, .int .i64 0, .string { data := #[] }] ∧ ((Tryz.prog.info? 33).map (·.size) = some (chC u).size ∧ (#[.int .i64 0, .int .u8 0, .int .u8 0, .int .u8 0, .int .u8 0, .int .u8 0, .int .u8 0, .int .u8 0, .int .u8 0, .int .u8 0, .int .u8 0, .int .u8 0, .int .u8 0, .int .u8 0, .int .u8 0, .int .u8 0, .int .u8 0, .int .u8 0, .int .u8 0, .int .u8 0, .int .u8 0, .int .u64 0, .int .u64 0, .int .u64 0, .int .u64 0, .int .u64 0, .int .u64 0, .int .u64 0, .int .u64 0, .int .i64 0, .string { data := #[] }] : Array Value).size = (chC u).size ∧ (chC u).all (·.oneCell') = true) ∧ Has z x.heap.size 33 (chC u) ∧ Below x.heap.size x z := by
 have h8 := Has.new x 33 #[.int .i64 0, .int .u8 0, .int .u8 0, .int .u8 0, .int .u8 0, .int .u8 0, .int .u8 0, .int .u8 0, .int .u8 0, .int .u8 0, .int .u8 0, .int .u8 0, .int .u8 0, .int .u8 0, .int .u8 0, .int .u8 0, .int .u8 0, .int .u8 0, .int .u8 0, .int .u8 0, .int .u8 0, .int .u64 0, .int .u64 0, .int .u64 0, .int .u64 0, .int .u64 0, .int .u64 0, .int .u64 0, .int .u64 0, .int .i64 0, .string { data := #[] }]
 have qb := newA x (.cells #[.int .i64 0, .int .u8 0, .int .u8 0, .int .u8 0, .int .u8 0, .int .u8 0, .int .u8 0, .int .u8 0, .int .u8 0, .int .u8 0, .int .u8 0, .int .u8 0, .int .u8 0, .int .u8 0, .int .u8 0, .int .u8 0, .int .u8 0, .int .u8 0, .int .u8 0, .int .u8 0, .int .u8 0, .int .u64 0, .int .u64 0, .int .u64 0, .int .u64 0, .int .u64 0, .int .u64 0, .int .u64 0, .int .u64 0, .int .i64 0, .string { data := #[] }] 33)
 exact ⟨_, rfl, _, rfl, h8, chRow u, setRow_heap _ _ _ _ _ _ h8, below_rowAc qb (g := x.heap.size) (Nat.le_refl _) (chC u)⟩
theorem stateDigests_any (W : World) (hT : Tab W) (v : Value) (zs : List Q4) (hr : RowF 4 W v zs) (p : Nat → Int) (hp : ∀ j, j < 4 → I64 (p j)) (q : Nat → Int) (hq : ∀ j, j < 4 → I64 (q j)) :
  Calls Tryz.prog 6 #[v, .agg (rowL 4 p).toArray, .agg (rowL 4 q).toArray] W fun e w' => e = .returned (.bool true) ∧ Below W.heap.size W w' := by
 show Calls Tryz.prog 6 #[v, .agg #[.int .i64 (p 0), .int .i64 (p 1), .int .i64 (p 2), .int .i64 (p 3)], .agg #[.int .i64 (q 0), .int .i64 (q 1), .int .i64 (q 2), .int .i64 (q 3)]] W fun e w' => e = .returned (.bool true) ∧ Below W.heap.size W w'
 have hB1 := (Has.new W 34 #[.int .i64 (p 0), .int .i64 (p 1), .int .i64 (p 2), .int .i64 (p 3)]).alloc (.cells #[.int .i64 (q 0), .int .i64 (q 1), .int .i64 (q 2), .int .i64 (q 3)] 34)
 have hB2 := Has.new (W.alloc (.cells #[.int .i64 (p 0), .int .i64 (p 1), .int .i64 (p 2), .int .i64 (p 3)] 34)) 34 #[.int .i64 (q 0), .int .i64 (q 1), .int .i64 (q 2), .int .i64 (q 3)]
 simp only [World.size_alloc] at hB2
 have q0 := (newA W (.cells #[.int .i64 (p 0), .int .i64 (p 1), .int .i64 (p 2), .int .i64 (p 3)] 34)).alloc (by simp) (.cells #[.int .i64 (q 0), .int .i64 (q 1), .int .i64 (q 2), .int .i64 (q 3)] 34)
 obtain ⟨V, hV⟩ : ∃ V, (W.alloc (.cells #[.int .i64 (p 0), .int .i64 (p 1), .int .i64 (p 2), .int .i64 (p 3)] 34)).alloc (.cells #[.int .i64 (q 0), .int .i64 (q 1), .int .i64 (q 2), .int .i64 (q 3)] 34) = V := ⟨_, rfl⟩
 rw [hV] at hB1 hB2 q0
 have HB1 := hid hB1
 have HB2 := hid hB2
 have Q0 := hid q0
 have HT := hid (hT.later q0)
 have AW := hid (awake_any V (hT.later q0))
 have ST := hid (fun (X : World) (hX : Below V.heap.size V X) => state8_any X v zs ((hr.later q0).later hX))
 have CH1 := hid (fun X : World => change8_any X (p 0) (p 1) (p 2) (p 3) (hp 0 (by decide)) (hp 1 (by decide)) (hp 2 (by decide)) (hp 3 (by decide)))
 have CH2 := hid (fun X : World => change8_any X (q 0) (q 1) (q 2) (q 3) (hq 0 (by decide)) (hq 1 (by decide)) (hq 2 (by decide)) (hq 3 (by decide)))
 have hI := stN_inv zs
 have hGC := chN_goodC (p 0) (p 1) (p 2) (p 3)
 have hGD := dN_good (c := chN (p 0) (p 1) (p 2) (p 3)) (q 0) (q 1) (q 2) (q 3)
 have hK : ∃ k : Int, 0 ≤ k ∧ k < 9 ∧ (chN (q 0) (q 1) (q 2) (q 3)).at_ = adrN k := ⟨pickN (q 1) 9, (pickN_range (q 1) 9 (by decide)).1, (pickN_range (q 1) 9 (by decide)).2, chN_at _ _ _ _⟩
 have hO0 := (chN_ok (q 0) (q 1) (q 2) (q 3)).at_
 obtain ⟨ra, rc, rfl, _, _⟩ := hr.shape
 clear hB1 hB2 q0 hT hr hp hq
 generalize stN zs = l at *
 generalize chN (p 0) (p 1) (p 2) (p 3) = c at *
 generalize chN (q 0) (q 1) (q 2) (q 3) = d0 at *
 have HEQ := hid (fun X : World => eq20 c.at_ d0.at_ hGC.ok.at_ hO0 X)
 have hD1 : c.at_ = d0.at_ → dN c d0 = { d0 with at_ := d0.at_ + 77 * 256 ^ 14 } := fun h => by unfold dN; rw [if_pos h]
 have hD2 : c.at_ ≠ d0.at_ → dN c d0 = d0 := fun h => by unfold dN; rw [if_neg h]
 obtain ⟨d, hd⟩ : ∃ d, dN c d0 = d := ⟨_, rfl⟩
 rw [hd] at hGD hD1 hD2
 have HC := hid (And.intro hK (And.intro hD1 hD2))
 have hcm := do_comm hI hGC hGD.1 hGD.2
 obtain ⟨e1, i1⟩ := hI.doG (by decide) hGC
 obtain ⟨e2, i2⟩ := i1.doG (by decide) hGD.1
 obtain ⟨e3, i3⟩ := hI.doG (by decide) hGD.1
 obtain ⟨e4, i4⟩ := i3.doG (by decide) hGC
 obtain ⟨m1, hm1⟩ : ∃ m, doL l c = m := ⟨_, rfl⟩
 rw [hm1] at hcm i1 e2 i2
 obtain ⟨m2, hm2⟩ : ∃ m, doL m1 d = m := ⟨_, rfl⟩
 rw [hm2] at hcm i2
 obtain ⟨m3, hm3⟩ : ∃ m, doL l d = m := ⟨_, rfl⟩
 rw [hm3] at hcm i3 e4 i4
 rw [← hcm] at i4
 have HI := hid (And.intro hI (And.intro i1 (And.intro i2 i3)))
 have HD := hid (And.intro e1 (And.intro e2 (And.intro e3 e4)))
 have HM := hid (And.intro hm1 (And.intro hm2 (And.intro hm3 hcm.symm)))
 have HOK := hid (And.intro hGC.ok hGD.1.ok)
 clear hK hD1 hD2 hd hcm hm1 hm2 hm3 e1 e2 e3 e4 i1 i2 i3 i4 hI hGC hGD hO0
 go_enter Tryz.func6, Tryz.ntmps6
 go_wp2_with fail
 clear hV
 refine AW.out.mono ?_
 rintro _ w1 ⟨rfl, hb⟩
 have Q1 := hid hb
 clear AW hb
 have CC := hid (ST.out w1 Q1.out)
 go_wp2_with fail
 refine CC.out.mono ?_
 rintro _ w2 ⟨s0, rfl, hst, hb⟩
 have S0 := hid hst
 have Q2 := hid (Q1.out.trans (hb.mono Q1.out.size))
 clear CC ST hst hb
 have c0 := (HB1.out.later Q2.out).cell 0 _ rfl
 have c1 := (HB1.out.later Q2.out).cell 1 _ rfl
 have c2 := (HB1.out.later Q2.out).cell 2 _ rfl
 have c3 := (HB1.out.later Q2.out).cell 3 _ rfl
 have CC := hid (CH1.out w2)
 go_wp2_with fail
 clear c0 c1 c2 c3
 refine CC.out.mono ?_
 rintro _ x1 ⟨rfl, hb⟩
 obtain ⟨y1, hy1, z1, hz1, h8, hi8, k8, qa⟩ := chBox x1 (c)
 have KC := hid k8
 have QZ := hid (hb.trans (qa.mono hb.size))
 have HBZ := hid (((HB2.out.later Q2.out).later hb).later qa)
 have H9 := hid hb.size
 have c0 := HBZ.out.cell 0 _ rfl
 have c1 := HBZ.out.cell 1 _ rfl
 have c2 := HBZ.out.cell 2 _ rfl
 have c3 := HBZ.out.cell 3 _ rfl
 clear hb qa k8 CC CH1
 have CC := hid (CH2.out z1)
 go_wp2_with (first | (refine wpList_store_row rfl _ (.tmp 9) (.tmp 31) rfl _ _ rfl rfl _ _ h8 hi8.1 hi8.2.1 hi8.2.2 ?_; rw [hz1]))
 clear h8 hi8 hy1 hz1 c0 c1 c2 c3
 obtain ⟨b9, hb9⟩ : ∃ b, x1.heap.size = b := ⟨_, rfl⟩
 rw [hb9] at KC H9 ⊢
 clear hb9
 refine CC.out.mono ?_
 rintro _ x2 ⟨rfl, hb⟩
 obtain ⟨y2, hy2, z2, hz2, h8, hi8, k8, qa⟩ := chBox x2 (d0)
 have KD := hid k8
 have KC2 := hid ((KC.out.later hb).later qa)
 have Q3 := hid ((QZ.out.trans (hb.mono QZ.out.size)).trans (qa.mono (Nat.le_trans QZ.out.size hb.size)))
 have H10 := hid (show w2.heap.size ≤ x2.heap.size ∧ b9 ≠ x2.heap.size from ⟨Nat.le_trans QZ.out.size hb.size, by have := KC.out.lt; have := hb.size; omega⟩)
 have LA := KC2.out.chAdLoad
 have LB := k8.chAdLoad
 have heq := HEQ.out
 clear hb qa k8 CC CH2 KC QZ HBZ HEQ
 obtain ⟨ca, hca⟩ : ∃ x, adC c.at_ = x := ⟨_, rfl⟩
 obtain ⟨cb, hcb⟩ : ∃ x, adC d0.at_ = x := ⟨_, rfl⟩
 rw [hca] at LA heq
 rw [hcb] at LB heq
 clear hca hcb
 obtain ⟨bq, hbq⟩ : ∃ b, decide (c.at_ = d0.at_) = b := ⟨_, rfl⟩
 rw [hbq] at heq
 have HBQ := hid hbq
 clear hbq
 go_upto_if 38 with (first | (refine wpList_store_row rfl _ (.tmp 10) (.tmp 33) rfl _ _ rfl rfl _ _ h8 hi8.1 hi8.2.1 hi8.2.2 ?_; rw [hz2]) | (refine wpList_load_known rfl _ (.tmp 34) rfl _ rfl _ LA ?_) | (refine wpList_load_known rfl _ (.tmp 36) rfl _ rfl _ LB ?_))
 clear h8 hi8 hy2 hz2 LA LB heq
 obtain ⟨b10, hb10⟩ : ∃ b, x2.heap.size = b := ⟨_, rfl⟩
 rw [hb10] at KD H10 ⊢
 clear hb10
 go_cut [] from 27 (fun wx => Has wx b9 33 (chC c) ∧ Has wx b10 33 (chC d) ∧ Below w2.heap.size w2 wx)
 case first =>
  cases bq
  ·go_wp2_with fail
   go_meet
   have hne : c.at_ ≠ d0.at_ := by simpa using HBQ.out
   exact ⟨KC2.out, by rw [HC.out.2.2 hne]; exact KD.out, Q3.out⟩
  ·have he : c.at_ = d0.at_ := by simpa using HBQ.out
   have K2 := hid (show Has (z2.setCell ⟨b10, 6, none⟩ (.int .u8 77)) b9 33 (chC c) ∧ Has (z2.setCell ⟨b10, 6, none⟩ (.int .u8 77)) b10 33 (chC d) ∧ Below w2.heap.size w2 (z2.setCell ⟨b10, 6, none⟩ (.int .u8 77)) from by
    obtain ⟨k, k0, k1, k2⟩ := HC.out.1
    refine ⟨KC2.out.other (p := ⟨b10, 6, none⟩) (by have := H10.out.2; simpa using this) _, ?_, Q3.out.setCell (p := ⟨b10, 6, none⟩) H10.out.1 _⟩
    rw [HC.out.2.1 he]
    exact KD.out.chAt5 k0 k1 k2)
   obtain ⟨u6, hu6⟩ : ∃ u, (chC d0)[6]? = some u := ⟨_, Array.getElem?_eq_getElem (by rw [chC_size]; decide)⟩
   have r6 := KD.out.cell 6 _ hu6
   have f6 := KD.out.frozen 6
   clear he hu6
   go_wp2_with fail
   go_meet
   exact K2.out
 case rest =>
  obtain ⟨hc9, hd10, hq⟩ := hcut
  have KC0 := hid hc9
  have KD0 := hid hd10
  have S0a := hid (S0.out.later hq)
  have Qa := hid (Q2.out.trans (hq.mono Q2.out.size))
  obtain ⟨wa, hwa⟩ : ∃ wa, wa = wc := ⟨_, rfl⟩
  subst hwa
  clear hc9 hd10 hq KC2 KD Q3 S0 Q2 HBQ H10 H9 HC HB1 HB2 Q1
  have LL := KC0.out.chLoad
  have CC := hid (show Calls Tryz.prog 23 #[s0, .agg (chC c)] wa (fun e w' => ∃ v, e = .returned (.tuple #[v, .agg (chC (doU l c)), .int .i64 0]) ∧ StK w' v m1 ∧ Below wa.heap.size wa w') from by
   have h := do_any wa s0 l S0a.out.st (by have := HI.out.1.len; omega) (fun y hy => by have := HI.out.1.slots y hy; omega) c HOK.out.1
   rw [HD.out.1, HM.out.1] at h
   exact h)
  obtain ⟨u1, hu⟩ : ∃ u, doU l c = u := ⟨_, rfl⟩
  rw [hu] at CC
  clear hu
  go_wp2_with (first | (refine wpList_load_known rfl _ (.tmp 9) rfl _ rfl _ LL ?_))
  clear LL
  refine CC.out.mono ?_
  rintro _ X1 ⟨t1, rfl, hst, hb⟩
  obtain ⟨Y1, hY1, Z1, hZ1, h8, hi8, k8, qa⟩ := chBox X1 (u1)
  have S1 := hid (hst.later qa)
  have hqq := hb.trans (qa.mono hb.size)
  have QN := hid (Qa.out.trans (hqq.mono Qa.out.size))
  clear Qa
  have Qa := QN
  clear QN
  have KC1 := hid (KC0.out.later hqq)
  have KD1 := hid (KD0.out.later hqq)
  have SN := hid (S0a.out.later hqq)
  clear S0a
  have S0a := SN
  clear SN
  clear CC hst hb qa k8 hqq KC0 KD0
  have LL := KD1.out.chLoad
  have CC := hid (show Calls Tryz.prog 23 #[t1, .agg (chC d)] Z1 (fun e w' => ∃ v, e = .returned (.tuple #[v, .agg (chC (doU m1 d)), .int .i64 0]) ∧ StK w' v m2 ∧ Below Z1.heap.size Z1 w') from by
   have h := do_any Z1 t1 m1 S1.out.st (by have := HI.out.2.1.len; omega) (fun y hy => by have := HI.out.2.1.slots y hy; omega) d HOK.out.2
   rw [HD.out.2.1, HM.out.2.1] at h
   exact h)
  obtain ⟨u2, hu⟩ : ∃ u, doU m1 d = u := ⟨_, rfl⟩
  rw [hu] at CC
  clear hu
  go_wp2_with (first | (refine wpList_store_row rfl _ (.tmp 12) (.tmp 46) rfl _ _ rfl rfl _ _ h8 hi8.1 hi8.2.1 hi8.2.2 ?_; rw [hZ1]) | (refine wpList_load_known rfl _ (.tmp 10) rfl _ rfl _ LL ?_))
  clear h8 hi8 hY1 hZ1 LL
  refine CC.out.mono ?_
  rintro _ X2 ⟨t2, rfl, hst, hb⟩
  obtain ⟨Y2, hY2, Z2, hZ2, h8, hi8, k8, qa⟩ := chBox X2 (u2)
  have S2 := hid (hst.later qa)
  have hqq := hb.trans (qa.mono hb.size)
  have QN := hid (Qa.out.trans (hqq.mono Qa.out.size))
  clear Qa
  have Qa := QN
  clear QN
  have KC2 := hid (KC1.out.later hqq)
  have KD2 := hid (KD1.out.later hqq)
  have SN := hid (S0a.out.later hqq)
  clear S0a
  have S0a := SN
  clear SN
  have SN := hid (S1.out.later hqq)
  clear S1
  have S1 := SN
  clear SN
  clear CC hst hb qa k8 hqq KC1 KD1
  have LL := KD2.out.chLoad
  have CC := hid (show Calls Tryz.prog 23 #[s0, .agg (chC d)] Z2 (fun e w' => ∃ v, e = .returned (.tuple #[v, .agg (chC (doU l d)), .int .i64 0]) ∧ StK w' v m3 ∧ Below Z2.heap.size Z2 w') from by
   have h := do_any Z2 s0 l S0a.out.st (by have := HI.out.1.len; omega) (fun y hy => by have := HI.out.1.slots y hy; omega) d HOK.out.2
   rw [HD.out.2.2.1, HM.out.2.2.1] at h
   exact h)
  obtain ⟨u3, hu⟩ : ∃ u, doU l d = u := ⟨_, rfl⟩
  rw [hu] at CC
  clear hu
  go_wp2_with (first | (refine wpList_store_row rfl _ (.tmp 15) (.tmp 53) rfl _ _ rfl rfl _ _ h8 hi8.1 hi8.2.1 hi8.2.2 ?_; rw [hZ2]) | (refine wpList_load_known rfl _ (.tmp 10) rfl _ rfl _ LL ?_))
  clear h8 hi8 hY2 hZ2 LL
  refine CC.out.mono ?_
  rintro _ X3 ⟨t3, rfl, hst, hb⟩
  obtain ⟨Y3, hY3, Z3, hZ3, h8, hi8, k8, qa⟩ := chBox X3 (u3)
  have S3 := hid (hst.later qa)
  have hqq := hb.trans (qa.mono hb.size)
  have QN := hid (Qa.out.trans (hqq.mono Qa.out.size))
  clear Qa
  have Qa := QN
  clear QN
  have KC3 := hid (KC2.out.later hqq)
  have KD3 := hid (KD2.out.later hqq)
  have SN := hid (S0a.out.later hqq)
  clear S0a
  have S0a := SN
  clear SN
  have SN := hid (S1.out.later hqq)
  clear S1
  have S1 := SN
  clear SN
  have SN := hid (S2.out.later hqq)
  clear S2
  have S2 := SN
  clear SN
  clear CC hst hb qa k8 hqq KC2 KD2
  have LL := KC3.out.chLoad
  have CC := hid (show Calls Tryz.prog 23 #[t3, .agg (chC c)] Z3 (fun e w' => ∃ v, e = .returned (.tuple #[v, .agg (chC (doU m3 c)), .int .i64 0]) ∧ StK w' v m2 ∧ Below Z3.heap.size Z3 w') from by
   have h := do_any Z3 t3 m3 S3.out.st (by have := HI.out.2.2.2.len; omega) (fun y hy => by have := HI.out.2.2.2.slots y hy; omega) c HOK.out.1
   rw [HD.out.2.2.2, HM.out.2.2.2] at h
   exact h)
  obtain ⟨u4, hu⟩ : ∃ u, doU m3 c = u := ⟨_, rfl⟩
  rw [hu] at CC
  clear hu
  go_wp2_with (first | (refine wpList_store_row rfl _ (.tmp 18) (.tmp 60) rfl _ _ rfl rfl _ _ h8 hi8.1 hi8.2.1 hi8.2.2 ?_; rw [hZ3]) | (refine wpList_load_known rfl _ (.tmp 9) rfl _ rfl _ LL ?_))
  clear h8 hi8 hY3 hZ3 LL
  refine CC.out.mono ?_
  rintro _ X4 ⟨t4, rfl, hst, hb⟩
  obtain ⟨Y4, hY4, Z4, hZ4, h8, hi8, k8, qa⟩ := chBox X4 (u4)
  have S4 := hid (hst.later qa)
  have hqq := hb.trans (qa.mono hb.size)
  have QN := hid (Qa.out.trans (hqq.mono Qa.out.size))
  clear Qa
  have Qa := QN
  clear QN
  have KC4 := hid (KC3.out.later hqq)
  have KD4 := hid (KD3.out.later hqq)
  have SN := hid (S0a.out.later hqq)
  clear S0a
  have S0a := SN
  clear SN
  have SN := hid (S1.out.later hqq)
  clear S1
  have S1 := SN
  clear SN
  have SN := hid (S2.out.later hqq)
  clear S2
  have S2 := SN
  clear SN
  have SN := hid (S3.out.later hqq)
  clear S3
  have S3 := SN
  clear SN
  clear CC hst hb qa k8 hqq KC3 KD3
  have hdg := dig_of S2.out.st HI.out.2.2.1
  have DG := hid (fun (X : World) (hX : Below V.heap.size V X) (t : Value) (hS : StAt X t m2) => (show Calls Tryz.prog 25 #[t] X (fun e w' => e = .returned (.tuple #[.string (digS m2), .int .i64 0]) ∧ Below X.heap.size X w') from by
   have h := digest_any X (HT.out.later hX) t m2 hS
   rw [hdg.1] at h
   exact h))
  have hsz := hdg.2
  clear hdg
  obtain ⟨dS, hdS⟩ : ∃ s, digS m2 = s := ⟨_, rfl⟩
  rw [hdS] at DG hsz
  clear hdS KC4 KD4 S0a S1 S3
  have CC := hid (DG.out Z4 Qa.out t2 S2.out.st)
  go_wp2_with (first | (refine wpList_store_row rfl _ (.tmp 21) (.tmp 67) rfl _ _ rfl rfl _ _ h8 hi8.1 hi8.2.1 hi8.2.2 ?_; rw [hZ4]))
  clear h8 hi8 hY4 hZ4
  refine CC.out.mono ?_
  rintro _ wd ⟨rfl, hb⟩
  have S2d := hid (S2.out.later hb)
  have S4d := hid (S4.out.later hb)
  have Qd := hid (Qa.out.trans (hb.mono Qa.out.size))
  clear CC hb S2 S4 Qa
  have CC := hid (DG.out wd Qd.out t4 S4d.out.st)
  go_wp2_with fail
  refine CC.out.mono ?_
  rintro _ we ⟨rfl, hb⟩
  have S2e := hid (S2d.out.later hb)
  have S4e := hid (S4d.out.later hb)
  have Qe := hid (Qd.out.trans (hb.mono Qd.out.size))
  clear CC hb S2d S4d Qd DG
  have CC := hid (show Calls Tryz.prog 13 #[t2, t4] we (fun e w' => e = .returned (.bool true) ∧ Below we.heap.size we w') from by
   have h := refSame_any8 we t2 t4 m2 m2 S2e.out.st S4e.out.st
   rw [sameS_true rfl] at h
   exact h)
  go_wp2_with fail
  refine CC.out.mono ?_
  rintro _ wf ⟨rfl, hb⟩
  have QF := hid (Q0.out.trans ((Qe.out.trans (hb.mono Qe.out.size)).mono Q0.out.size))
  clear CC hb
  go_wp2_with fail
  go_ret
  exact ⟨rfl, QF.out⟩
end
section
open Go Go.ChangeShapes Go.WideShapes Go.ChangeAt Go.RowKit
theorem ownNone : ownKnob Tryz.prog.godebug = none := by kernel_rfl
theorem tabIs_of_second {P : Program} {W : World} {name : String} {k : IntKind} {zs : List Int} {fst : String × DataW Unit} {rest : List (String × DataW Unit)} {g : Nat} {t e : TypeId} {n : Nat}
  (hg : P.globalNamed name = some g) (hty : (P.globals[g]?).map (·.type) = some t) (ht : P.underlying t = some (.array n e)) (he : P.underlying e = some (.int k)) (hce : P.cellsOf e = 1) (hct : P.cellsOf t = n)
  (h : laidMet P (fst :: (name, Lib.tabData k zs) :: rest) W) : Lib.TabIs P W name k zs := by
 obtain ⟨ps, ⟨_, _, _, _, _, _, _, _, _, _, hrest, _⟩, _⟩ := h
 obtain ⟨g', t', cs, fuel, p, q, hg', ht', hvar, hd, _, _⟩ := hrest
 obtain rfl := Option.some.inj (hg.symm.trans hg')
 obtain rfl := Option.some.inj (hty.symm.trans ht')
 unfold Lib.TabIs
 rw [hvar, ← Lib.cells_of_tab ht he hce hct hd]
theorem tab_of_laid {W : World} (h : laidMetH Tryz.prog [("unicode/utf8.acceptRanges", Rows.laid_unicode_utf8_acceptRanges), ("railhead/keccak.constants", Rows.laid_railhead_keccak_constants), ("unicode/utf8.first", Rows.laid_unicode_utf8_first)] W) : Tab W := by
 rw [MakeChecks.laidMetH_plain _ _ _ (by kernel_rfl)] at h
 have hg : Tryz.prog.globalNamed "railhead/keccak.constants" = some 0 := by kernel_rfl
 have hT := tabIs_of_second (k := .u64) (zs := rcL.map fun n => ((n : Nat) : Int)) hg (show (Tryz.prog.globals[0]?).map (·.type) = some 135 by kernel_rfl) Tryz.underlying135 Tryz.underlying26 (by kernel_rfl) (by kernel_rfl) h
 have hc : ∀ i, i < 24 → W.cell? ⟨0, i, none⟩ = some (.int .u64 ((rcL.getD i 0 : Nat) : Int)) := fun i hi => by
  have := hT.cell hg i (by simpa [rcL] using hi)
  rw [this]
  have hl : i < rcL.length := hi
  simp [List.getD_eq_getElem?_getD, List.getElem?_map, List.getElem?_eq_getElem hl]
 exact ⟨lt_of_cell (hc 0 (by omega)), hc⟩
end
section
open Go Go.ChangeShapes Go.WideShapes Go.ChangeAt Go.RowKit Go.Deep
theorem cellsI64 : Tryz.prog.cellsOf 3 = 1 := by kernel_rfl
theorem laidOutAll : laidOutB Tryz.prog = true := by kernel_rfl
theorem trodAll_below {H : Type} {enc : TypeId × Value → H} {W W' : World} (hb : Below W.heap.size W W') : ∀ {ts : List TypeId} {vs : List Value} {ds : List (DataW H)} {ps : List MemPlace},
  (∀ t ∈ ts, Tryz.prog.readableRec t = true ∧ t < Tryz.prog.types.size) → DataW.TrodAll enc Tryz.prog W 0 (fun _ => true) true ts vs ds ps → (∀ x ∈ ps, x.block < W.heap.size) →
  DataW.TrodAll enc Tryz.prog W' 0 (fun b => decide (b < W.heap.size)) true ts vs ds ps
 | [], [], [], _, _, h, _ => h
 | _ :: _, _ :: _, _ :: _, _, ht, ⟨p, q, h1, h2, e⟩, hs =>
  ⟨p, q, Below.trod laidOutAll (ht _ (List.mem_cons.2 (Or.inl rfl))).1 (ht _ (List.mem_cons.2 (Or.inl rfl))).2 h1 hb (fun x hx => hs x (by rw [e]; exact List.mem_append_left _ hx)),
   trodAll_below hb (fun t h => ht t (List.mem_cons.2 (Or.inr h))) h2 (fun x hx => hs x (by rw [e]; exact List.mem_append_right _ hx)), e⟩
theorem post_read {H : Type} {enc : TypeId × Value → H} {f : Func} {s : ChangeSpec} {W W' : World} {args : Array Value} {ds : List (DataW H)} {before : List MemPlace}
  (hW : DataW.Whole enc Tryz.prog f.params.toList s.vars false W args.toList ds [] before) (hvars : s.vars = []) (hft : f.resultTypes = #[4])
  (hfn : s.fn H ds = { results := [.lit (.bool true)], args := ds }) (hA : DataW.TrodAll enc Tryz.prog W 0 (fun _ => true) true f.params.toList args.toList ds before)
  (hts : (f.params.toList.all fun t => Tryz.prog.readableRec t && decide (t < Tryz.prog.types.size)) = true)
  (hb : Below W.heap.size W W') : s.post enc Tryz.prog f false true false false W args (.bool true) W' := by
 have e : (s.fn H (ds ++ [])) = { results := [.lit (.bool true)], args := ds } := by rw [List.append_nil]; exact hfn
 refine ⟨ds, [], before, [], before, [], hW, ?_, ?_, ?_, World.keptBut_mono (fun p hp => absurd hp (by simp)) (hb.frame (fun _ => False)), fun h => by cases h⟩
 ·rw [e, hft]
  exact trodAll_mk1 (shut_bool Tryz.underlying4 _)
 ·rw [e]
  exact trodAll_below hb (fun t ht => by
   have := List.all_eq_true.1 hts t ht
   simpa using this) hA (fun x hx => by simpa using hW.lt x hx)
 ·rw [e, hvars]
  rfl
theorem cellsRow4 : Tryz.prog.cellsOf 34 = 4 := by kernel_rfl
theorem trod_rowF {H : Type} {enc : TypeId × Value → H} {P : Program} {w : World} {base : Nat} {spare : Nat → Bool} {held : Bool} {t e : TypeId} {fuel N : Nat} {cs : List Value} {x : DataW H × List MemPlace} (ht : P.underlying t = some (.array N e)) (he : P.underlying e = some (.int .i64)) (hce : P.cellsOf e = 1) (hct : P.cellsOf t = N)
  (h : DataW.trod enc P w base spare held fuel t cs = some x) : cs.length = N ∧ ∃ f : Nat → Int, ∀ j, j < N → I64 (f j) ∧ cs[j]? = some (.int .i64 (f j)) := by
 obtain ⟨xs, m, rfl, hx, hlen, hxl, hi⟩ := DataW.trod_array ht h
 rw [hct] at hlen
 have key : ∀ j, j < N → ∃ z : Int, I64 z ∧ cs[j]? = some (.int .i64 z) := by
  intro j hj
  have h0 := hi j hj
  rw [hce, Nat.mul_one, List.getElem?_eq_getElem (by omega)] at h0
  obtain ⟨z, e1, _, w0⟩ := DataW.trod_int he h0
  have b0 := bounds_i64 w0
  refine ⟨z, by unfold I64; omega, ?_⟩
  have e2 : (cs.drop j)[0]? = some (.int .i64 z) := by
   have := congrArg (fun l : List Value => l[0]?) e1
   simpa [List.getElem?_take] using this
  simpa using e2
 refine ⟨hlen, fun j => if h : j < N then Classical.choose (key j h) else 0, fun j hj => ?_⟩
 simp only [dif_pos hj]
 exact Classical.choose_spec (key j hj)
theorem open_rowF {H : Type} {enc : TypeId × Value → H} {W : World} {base b : Nat} {sp : Nat → Bool} {held : Bool} {v : Value} {d : DataW H} {ps : List MemPlace}
  (hval : Value.okWide Tryz.prog W .any base 23 v) (hd : DataW.Trod enc Tryz.prog W b sp held 23 v d ps) : ∃ zs, RowF 4 W v zs := by
 obtain ⟨a0, len, cap, rfl⟩ := okWide_slice Tryz.underlying23 hval
 obtain ⟨fuel, hf⟩ := hd
 rcases open_slice Tryz.underlying23 hf with ⟨hcs, _⟩ | ⟨a, len', cap', m, n, D, Pl, hcs, _, hl, hm, hmm, _, hi⟩
 ·simp [Value.cells] at hcs
  obtain ⟨rfl, rfl, rfl⟩ := hcs
  exact ⟨[], none, 0, rfl, by simp, by simp, fun i p hp => by simp at hp⟩
 ·simp [Value.cells] at hcs
  obtain ⟨rfl, rfl, rfl⟩ := hcs
  have hlm : len ≤ m := by rw [hmm]; split <;> omega
  have key : ∀ i, i < len → ∃ p : Nat → Int, RowsIn 4 W (a.add (i * 4)) p := by
   intro i hil
   obtain ⟨cs', hc, ht⟩ := hi i (by omega)
   rw [cellsRow4] at hc
   obtain ⟨_, hcl, hat⟩ := World.cells?_some hc
   obtain ⟨_, f, hf⟩ := trod_rowF Tryz.underlying34 Tryz.underlying3 cellsI64 cellsRow4 ht
   refine ⟨f, fun j hj => ⟨(hf j hj).1, ?_⟩⟩
   have := hat j (by omega)
   rw [this]
   have h2 := (hf j hj).2
   simpa using h2
  have hch : ∃ f : Nat → (Nat → Int), ∀ i, i < len → RowsIn 4 W (a.add (i * 4)) (f i) := by
   refine ⟨fun i => if h : i < len then Classical.choose (key i h) else fun _ => 0, fun i h => ?_⟩
   simp only [dif_pos h]
   exact Classical.choose_spec (key i h)
  obtain ⟨f, hf'⟩ := hch
  have hmax : maxLen ≤ 9223372036854775807 := by decide
  refine ⟨(List.range len).map f, some a, cap, by simp, by simpa using hl, by omega, fun i p hp => ?_⟩
  obtain ⟨hlt, he⟩ := List.getElem?_eq_some_iff.1 hp
  simp at hlt he
  subst he
  exact ⟨a, rfl, hf' i hlt⟩
theorem open_oneF {H : Type} {enc : TypeId × Value → H} {W : World} {base b : Nat} {sp : Nat → Bool} {held : Bool} {v : Value} {d : DataW H} {ps : List MemPlace}
  (hval : Value.okWide Tryz.prog W .any base 34 v) (hd : DataW.Trod enc Tryz.prog W b sp held 34 v d ps) : ∃ p : Nat → Int, v = .agg (rowL 4 p).toArray ∧ ∀ j, j < 4 → I64 (p j) := by
 obtain ⟨cs, rfl, hsz, _⟩ : ∃ cs, v = .agg cs ∧ cs.size = Tryz.prog.cellsOf 34 ∧ Row.okWide Tryz.prog W .any base 34 cs := by
  simpa [Value.okWide, Tryz.underlying34] using hval
 obtain ⟨l⟩ := cs
 obtain ⟨fuel, hf⟩ := hd
 obtain ⟨hlen, f, hf⟩ := trod_rowF (cs := l) Tryz.underlying34 Tryz.underlying3 cellsI64 cellsRow4 hf
 refine ⟨f, ?_, fun j hj => (hf j hj).1⟩
 congr 2
 refine List.ext_getElem? fun j => ?_
 rcases Nat.lt_or_ge j 4 with h | h
 ·rw [(hf j h).2]
  simp [rowL, h]
 ·rw [List.getElem?_eq_none (by omega), List.getElem?_eq_none (by rw [rowL_len]; omega)]
end
end Go.Proofs.YtkicmbdjihjgfaaGreatDoor
