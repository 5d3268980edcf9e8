/- The law StateBack. Condition: the table of the rounds' numbers lies in memory, and the raw numbers. -/
import Derived.Test.YtkicmbdjihjgfaaGreatDoorG22
import Derived.Test.YtkicmbdjihjgfaaGreatDoorG29
set_option maxRecDepth 100000
set_option maxHeartbeats 16000000
open List (setIfInBounds_toArray set_cons_succ set_cons_zero)
namespace Go.Proofs.YtkicmbdjihjgfaaGreatDoor
open Go Go.RowKit
attribute [local go_sem] Oper.semAt_some Grows wide_fn
theorem chgU_ok {x : Ac} {c : Ch} (hx : AcOk x) (hw : ∀ y ∈ x.slots, W256 y.1 ∧ W256 y.2) (hc : ChOk c) : ChOk (chgU x c) := by
 have hz : W256 0 := by unfold W256; decide
 have hi : I64 0 := by unfold I64; decide
 have h0 : (⟨#[]⟩ : ByteArray).size ≤ 140737488355328 := by decide
 have hl : W256 (look x.slots c.key) := by
  unfold look
  cases h : lk x.slots c.key with
  | none => exact hz
  | some v => exact (hw _ (lk_mem h)).2
 unfold chgU chgB
 repeat' split
 all_goals exact ⟨hc.kind, hc.at_, by first | exact hz | exact hc.key, by first | exact hz | exact hx.bal | exact hl, by first | exact hi | exact hx.non, by first | exact h0 | exact hx.code⟩
theorem stateBack_any (W : World) (hT : Tab W) (v : Value) (zs : List Q4) (hr : RowF 4 W v zs) (p : Nat → Int) (hp : ∀ j, j < 4 → I64 (p j)) :
  Calls Tryz.prog 4 #[v, .agg (rowL 4 p).toArray] W fun e w' => e = .returned (.bool true) ∧ Below W.heap.size W w' := by
 show Calls Tryz.prog 4 #[v, .agg #[.int .i64 (p 0), .int .i64 (p 1), .int .i64 (p 2), .int .i64 (p 3)]] W fun e w' => e = .returned (.bool true) ∧ Below W.heap.size W w'
 obtain ⟨V, hV, hB, q0⟩ := newBox W 34 #[.int .i64 (p 0), .int .i64 (p 1), .int .i64 (p 2), .int .i64 (p 3)]
 have HB := hid hB
 have Q0 := hid q0
 have AW := hid (awake_any V (hT.later q0))
 have ST := hid (fun (X : World) (hX : Below V.heap.size V X) => state8_any X v zs ((hr.later q0).later hX))
 have CH := hid (fun X : World => change8_any X (p 0) (p 1) (p 2) (p 3) (hp 0 (by decide)) (hp 1 (by decide)) (hp 2 (by decide)) (hp 3 (by decide)))
 have HI := hid (stN_inv zs)
 have HCO := hid (chN_ok (p 0) (p 1) (p 2) (p 3))
 have HRE := hid (chN_re (p 0) (p 1) (p 2) (p 3))
 obtain ⟨hd, hi2⟩ := HI.out.do (by decide) (p 0) (p 1) (p 2) (p 3)
 have HD := hid hd
 have HI2 := hid hi2
 obtain ⟨ra, rc, rfl, _, _⟩ := hr.shape
 clear hB q0 hT hr hp hd hi2
 generalize stN zs = l at *
 generalize chN (p 0) (p 1) (p 2) (p 3) = c at *
 obtain ⟨hr2, hd2, hl3, hu3⟩ := do_back HD.out
 rw [HRE.out] at hu3
 have HD2 := hid hd2
 have HL3 := hid hl3
 have HU3 := hid hu3
 have HR2 := hid hr2
 have HUOK := hid (fun (X : World) (sv : Value) (h : StAt X sv l) => (show ChOk (doU l c) from by
  rw [(do_parts HD.out).2.2.2.2.2]
  exact chgU_ok (findA_ok (fun x hx => by obtain ⟨i, hi⟩ := List.getElem?_of_mem hx; exact h.ok hi) HCO.out.at_) (findA_wide h _) HCO.out))
 clear hr2 hd2 hl3 hu3
 go_enter Tryz.func4, Tryz.ntmps4
 go_wp2_with fail
 clear hV
 refine AW.out.mono ?_
 rintro _ w1 ⟨rfl, hb⟩
 have Q1 := hid hb
 clear AW hb
 have CC := hid (ST.out w1 Q1.out)
 go_wp2_with fail
 refine CC.out.mono ?_
 rintro _ w2 ⟨s0, rfl, hst, hb⟩
 have S0 := hid hst
 have Q2 := hid (Q1.out.trans (hb.mono Q1.out.size))
 clear CC ST hst hb
 have c0 := (HB.out.later Q2.out).cell 0 _ rfl
 have c1 := (HB.out.later Q2.out).cell 1 _ rfl
 have c2 := (HB.out.later Q2.out).cell 2 _ rfl
 have c3 := (HB.out.later Q2.out).cell 3 _ rfl
 have CC := hid (CH.out w2)
 go_wp2_with fail
 clear c0 c1 c2 c3
 refine CC.out.mono ?_
 rintro _ w3 ⟨rfl, hb⟩
 have S0a := hid (S0.out.later hb)
 have Q3 := hid (Q2.out.trans (hb.mono Q2.out.size))
 have UOK := hid (HUOK.out w3 s0 S0a.out.st)
 clear CC CH hb S0 HUOK HB
 have CC := hid (show Calls Tryz.prog 23 #[s0, .agg (chC c)] w3 (fun e w' => ∃ v, e = .returned (.tuple #[v, .agg (chC (doU l c)), .int .i64 0]) ∧ StK w' v (doL l c) ∧ Below w3.heap.size w3 w') from by
  have h := do_any w3 s0 l S0a.out.st (by have := HI.out.len; omega) (fun y hy => by have := HI.out.slots y hy; omega) c HCO.out
  rw [HD.out] at h
  exact h)
 obtain ⟨m, hm⟩ : ∃ m, doL l c = m := ⟨_, rfl⟩
 obtain ⟨u, hu⟩ : ∃ u, doU l c = u := ⟨_, rfl⟩
 have MM := hid (And.intro hu hm)
 rw [hm] at CC HD2 HL3 HU3 HR2 HI2
 rw [hu] at CC UOK HD2 HL3 HU3
 clear hm hu
 go_wp2_with fail
 refine CC.out.mono ?_
 rintro _ x1 ⟨t1, rfl, hst, hb⟩
 obtain ⟨y1, hy1, h8, qb⟩ := newBox x1 33 #[.int .i64 0, .int .u8 0, .int .u8 0, .int .u8 0, .int .u8 0, .int .u8 0, .int .u8 0, .int .u8 0, .int .u8 0, .int .u8 0, .int .u8 0, .int .u8 0, .int .u8 0, .int .u8 0, .int .u8 0, .int .u8 0, .int .u8 0, .int .u8 0, .int .u8 0, .int .u8 0, .int .u8 0, .int .u64 0, .int .u64 0, .int .u64 0, .int .u64 0, .int .u64 0, .int .u64 0, .int .u64 0, .int .u64 0, .int .i64 0, .string { data := #[] }]
 have hi8 := chRow (u)
 have k8 : Has (y1.setRow x1.heap.size (chC (u))) x1.heap.size 33 (chC (u)) := setRow_heap _ _ _ _ _ _ h8
 have qa := below_rowAc qb (g := x1.heap.size) (Nat.le_refl _) (chC (u))
 obtain ⟨z1, hz1⟩ : ∃ z, y1.setRow x1.heap.size (chC (u)) = z := ⟨_, rfl⟩
 rw [hz1] at k8 qa
 have S1 := hid (hst.later qa)
 have Q4 := hid ((Q3.out.trans (hb.mono Q3.out.size)).trans (qa.mono (Nat.le_trans Q3.out.size hb.size)))
 have S0b := hid ((S0a.out.later hb).later qa)
 have LB := k8.chLoad
 clear CC hst hb qb qa k8
 have CC := hid (show Calls Tryz.prog 23 #[t1, .agg (chC u)] z1 (fun e w' => ∃ v, e = .returned (.tuple #[v, .agg (chC c), .int .i64 0]) ∧ StK w' v l ∧ Below z1.heap.size z1 w') from by
  have h := do_any z1 t1 m S1.out.st (by have := HI2.out.len; omega) (fun y hy => by have := HI2.out.slots y hy; omega) u UOK.out
  rw [HD2.out, HL3.out, HU3.out] at h
  exact h)
 go_wp2_with (first | (refine wpList_store_row rfl _ (.tmp 8) (.tmp 25) rfl _ _ rfl rfl _ _ h8 hi8.1 hi8.2.1 hi8.2.2 ?_; rw [hz1]) | (refine wpList_load_known rfl _ (.tmp 8) rfl _ rfl _ LB ?_))
 clear h8 hi8 LB hy1 hz1 S0a
 refine CC.out.mono ?_
 rintro _ x2 ⟨t2, rfl, hst, hb⟩
 obtain ⟨y2, hy2, h8, qb⟩ := newBox x2 33 #[.int .i64 0, .int .u8 0, .int .u8 0, .int .u8 0, .int .u8 0, .int .u8 0, .int .u8 0, .int .u8 0, .int .u8 0, .int .u8 0, .int .u8 0, .int .u8 0, .int .u8 0, .int .u8 0, .int .u8 0, .int .u8 0, .int .u8 0, .int .u8 0, .int .u8 0, .int .u8 0, .int .u8 0, .int .u64 0, .int .u64 0, .int .u64 0, .int .u64 0, .int .u64 0, .int .u64 0, .int .u64 0, .int .u64 0, .int .i64 0, .string { data := #[] }]
 have hi8 := chRow (c)
 have k8 : Has (y2.setRow x2.heap.size (chC (c))) x2.heap.size 33 (chC (c)) := setRow_heap _ _ _ _ _ _ h8
 have qa := below_rowAc qb (g := x2.heap.size) (Nat.le_refl _) (chC (c))
 obtain ⟨z2, hz2⟩ : ∃ z, y2.setRow x2.heap.size (chC (c)) = z := ⟨_, rfl⟩
 rw [hz2] at k8 qa
 have S2 := hid (hst.later qa)
 have Q5 := hid ((Q4.out.trans (hb.mono Q4.out.size)).trans (qa.mono (Nat.le_trans Q4.out.size hb.size)))
 have S0c := hid ((S0b.out.later hb).later qa)
 have S1b := hid ((S1.out.later hb).later qa)
 have LB := k8.chLoad
 clear CC hst hb qb qa k8
 have CC := hid (show Calls Tryz.prog 23 #[t2, .agg (chC c)] z2 (fun e w' => ∃ v, e = .returned (.tuple #[v, .agg (chC u), .int .i64 0]) ∧ StK w' v m ∧ Below z2.heap.size z2 w') from by
  have h := do_any z2 t2 l S2.out.st (by have := HI.out.len; omega) (fun y hy => by have := HI.out.slots y hy; omega) c HCO.out
  rw [HD.out, MM.out.1, MM.out.2] at h
  exact h)
 go_wp2_with (first | (refine wpList_store_row rfl _ (.tmp 11) (.tmp 32) rfl _ _ rfl rfl _ _ h8 hi8.1 hi8.2.1 hi8.2.2 ?_; rw [hz2]) | (refine wpList_load_known rfl _ (.tmp 11) rfl _ rfl _ LB ?_))
 clear h8 hi8 LB hy2 hz2 S0b S1
 refine CC.out.mono ?_
 rintro _ x3 ⟨t3, rfl, hst, hb⟩
 obtain ⟨y3, hy3, h8, qb⟩ := newBox x3 33 #[.int .i64 0, .int .u8 0, .int .u8 0, .int .u8 0, .int .u8 0, .int .u8 0, .int .u8 0, .int .u8 0, .int .u8 0, .int .u8 0, .int .u8 0, .int .u8 0, .int .u8 0, .int .u8 0, .int .u8 0, .int .u8 0, .int .u8 0, .int .u8 0, .int .u8 0, .int .u8 0, .int .u8 0, .int .u64 0, .int .u64 0, .int .u64 0, .int .u64 0, .int .u64 0, .int .u64 0, .int .u64 0, .int .u64 0, .int .i64 0, .string { data := #[] }]
 have hi8 := chRow (u)
 have k8 : Has (y3.setRow x3.heap.size (chC (u))) x3.heap.size 33 (chC (u)) := setRow_heap _ _ _ _ _ _ h8
 have qa := below_rowAc qb (g := x3.heap.size) (Nat.le_refl _) (chC (u))
 obtain ⟨z3, hz3⟩ : ∃ z, y3.setRow x3.heap.size (chC (u)) = z := ⟨_, rfl⟩
 rw [hz3] at k8 qa
 have S3 := hid (hst.later qa)
 have Q6 := hid ((Q5.out.trans (hb.mono Q5.out.size)).trans (qa.mono (Nat.le_trans Q5.out.size hb.size)))
 have S0d := hid ((S0c.out.later hb).later qa)
 have S1c := hid ((S1b.out.later hb).later qa)
 have S2b := hid ((S2.out.later hb).later qa)
 have LB := k8.chLoad
 clear CC hst hb qb qa k8
 have CC := hid (show Calls Tryz.prog 13 #[t2, s0] z3 (fun e w' => e = .returned (.bool true) ∧ Below z3.heap.size z3 w') from by
  have h := refSame_any8 z3 t2 s0 l l S2b.out.st S0d.out.st
  rw [sameS_true rfl] at h
  exact h)
 go_wp2_with (first | (refine wpList_store_row rfl _ (.tmp 14) (.tmp 39) rfl _ _ rfl rfl _ _ h8 hi8.1 hi8.2.1 hi8.2.2 ?_; rw [hz3]))
 clear h8 hi8 LB hy3 hz3 S0c S1b S2
 refine CC.out.mono ?_
 rintro _ x4 ⟨rfl, hb⟩
 have S3b := hid (S3.out.later hb)
 have S1d := hid (S1c.out.later hb)
 have Q7 := hid (Q6.out.trans (hb.mono Q6.out.size))
 clear CC hb S3 S1c S2b S0d
 have CC := hid (show Calls Tryz.prog 13 #[t3, t1] x4 (fun e w' => e = .returned (.bool true) ∧ Below x4.heap.size x4 w') from by
  have h := refSame_any8 x4 t3 t1 m m S3b.out.st S1d.out.st
  rw [sameS_true rfl] at h
  exact h)
 go_wp2_with fail
 refine CC.out.mono ?_
 rintro _ x5 ⟨rfl, hb⟩
 have S1e := hid (S1d.out.later hb)
 have Q8 := hid (Q7.out.trans (hb.mono Q7.out.size))
 clear CC hb S3b S1d
 have CC := hid (show Calls Tryz.prog 10 #[t1] x5 (fun e w' => e = .returned (.bool true) ∧ Below x5.heap.size x5 w') from by
  have h := right_st x5 t1 m S1e.out.st
  rw [HR2.out] at h
  exact h)
 go_wp2_with fail
 refine CC.out.mono ?_
 rintro _ x6 ⟨rfl, hb⟩
 have QF := hid (Q0.out.trans ((Q8.out.trans (hb.mono Q8.out.size)).mono Q0.out.size))
 clear CC hb
 go_wp2_with fail
 go_ret
 exact ⟨rfl, QF.out⟩
end Go.Proofs.YtkicmbdjihjgfaaGreatDoor
