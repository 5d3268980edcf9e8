/- The document's answer for tables: Diff. Conditions: the slots lie in memory. -/
import Derived.Test.YtcannohmbaaceaaTRefC
namespace Go.Proofs.Ytcannohmbaaceaa
open Go Go.RowKit
attribute [local go_sem] Oper.semAt_some Grows wide_fn eq4

theorem drop_at {l : List Sl} {i : Nat} {x : Sl} (h : l[i]? = some x) : l.drop i = x :: l.drop (i + 1) := by
  have h1 := (List.getElem?_eq_some_iff.1 h)
  rw [List.drop_eq_getElem_cons h1.1, h1.2]
section
variable {x y : Sl} {a b : List Sl}
theorem diff_lt (h : x.1 < y.1) (hx : x.2 ≠ 0) : diffL (x :: a) (y :: b) = (x.1, 0) :: diffL a (y :: b) := by
  unfold diffL
  rw [bothL, if_pos h]
  simp [listF, unlikeF, hx]
theorem diff_nil_r (hx : x.2 ≠ 0) : diffL (x :: a) [] = (x.1, 0) :: diffL a [] := by
  unfold diffL
  rw [bothL]
  simp [listF, unlikeF, hx]
theorem diff_gt (h : y.1 < x.1) (hy : y.2 ≠ 0) : diffL (x :: a) (y :: b) = y :: diffL (x :: a) b := by
  unfold diffL
  rw [bothL, if_neg (by omega), if_pos h]
  simp [listF, unlikeF, Ne.symm hy]
theorem diff_nil_l (hy : y.2 ≠ 0) : diffL [] (y :: b) = y :: diffL [] b := by
  unfold diffL
  rw [bothL]
  simp [listF, unlikeF, Ne.symm hy]
theorem diff_ne (h : x.1 = y.1) (hv : x.2 ≠ y.2) : diffL (x :: a) (y :: b) = y :: diffL a b := by
  unfold diffL
  rw [bothL, if_neg (by omega), if_neg (by omega)]
  simp [listF, unlikeF, hv, h]
theorem diff_eq (h : x.1 = y.1) (hv : x.2 = y.2) : diffL (x :: a) (y :: b) = diffL a b := by
  unfold diffL
  rw [bothL, if_neg (by omega), if_neg (by omega)]
  simp [listF, unlikeF, hv]
end
theorem wcmp_lt (a b : Nat) : wcmp a b < 0 ↔ a < b := by
  unfold wcmp
  split
  · exact ⟨fun _ => ‹_›, fun _ => by decide⟩
  · split
    · exact ⟨fun h => absurd h (by decide), fun h => absurd h ‹_›⟩
    · exact ⟨fun h => absurd h (by decide), fun h => absurd h ‹_›⟩
set_option maxRecDepth 100000 in
set_option maxHeartbeats 16000000 in
theorem refDiff_any (W : World) (sa sb : Value) (la lb : List Sl) (ha : SlotsAt W sa la) (hb : SlotsAt W sb lb) :
    Calls Try.prog 21 #[sa, sb] W (DoneP W (rightB' la && rightB' lb) (diffL la lb)) := by
  have hmx : Try.prog.follows .mixedOrders = true := by kernel_rfl
  have HA := Lib.hid ha
  have HB := Lib.hid hb
  have H1 := Lib.hid (refRight_any W sa la ha)
  have HRA := Lib.hid (fun (h : rightB' la = true) => (rightB_iff' la).1 h)
  have HRB := Lib.hid (fun (h : rightB' lb = true) => (rightB_iff' lb).1 h)
  clear ha hb
  generalize hra : rightB' la = ra at *
  generalize hrb : rightB' lb = rb at *
  have HEB := Lib.hid hrb
  clear hra hrb
  go_enter Try.func21, Try.ntmps21
  go_wp2_with fail
  refine H1.out.mono ?_
  rintro _ W1 ⟨rfl, q1⟩
  have Q1 := Lib.hid q1
  clear q1 H1
  cases ra
  · clear HRA HRB
    go_wp2_with fail
    go_ret2
    exact ⟨.inr (.inr ⟨by simp, rfl⟩), Q1.out⟩
  · go_wp2_with fail
    refine (refRight_any W1 sb lb (HB.out.later Q1.out)).mono ?_
    rintro _ W2 ⟨rfl, q2⟩
    rw [HEB.out]
    have Q2 := Lib.hid (Q1.out.trans (q2.mono Q1.out.size))
    clear q2 Q1 HEB
    cases rb
    · clear HRA HRB
      go_wp2_with fail
      go_ret2
      exact ⟨.inr (.inr ⟨by simp, rfl⟩), Q2.out⟩
    · have KA := Lib.hid (HRA.out trivial)
      have KB := Lib.hid (HRB.out rfl)
      clear HRA HRB
      obtain ⟨aA, cA, rfl, _⟩ := HA.out.shape
      obtain ⟨aB, cB, rfl, _⟩ := HB.out.shape
      have HAV := Lib.hid (HA.out.later Q2.out)
      have HBV := Lib.hid (HB.out.later Q2.out)
      obtain ⟨m, hm⟩ : ∃ m, la.length = m := ⟨_, rfl⟩
      obtain ⟨n, hn⟩ : ∃ n, lb.length = n := ⟨_, rfl⟩
      rw [hm] at HAV
      rw [hn] at HBV
      rw [hm, hn]
      have HM := Lib.hid hm
      have HN := Lib.hid hn
      have LM := Lib.hid (show m ≤ 1000 ∧ n ≤ 1000 from ⟨by rw [← hm]; exact KA.out.1, by rw [← hn]; exact KB.out.1⟩)
      clear hm hn HA HB
      go_wp2_with fail
      go_loopw [6, 7, 8] (fun u i k wr => ∃ (p q : Nat) (out : List Sl), p ≤ m ∧ q ≤ n ∧ i = .int .i64 (p : Int) ∧ k = .int .i64 (q : Int) ∧ out ++ diffL (la.drop p) (lb.drop q) = diffL la lb ∧ RowT wr W2.heap.size u out ∧ Below W2.heap.size W2 wr) (fun _ i k _ => (m - (intOf i).toNat) + (n - (intOf k).toNat))
      case atStart => exact ⟨0, 0, [], by omega, by omega, rfl, rfl, by simp, ⟨rfl, .inl ⟨rfl, rfl⟩⟩, Below.refl _ _⟩
      case round =>
        obtain ⟨p, q, out, hp, hq, rfl, rfl, hout, hrow, hb⟩ := hrel
        have HO := Lib.hid hout
        have HR := Lib.hid hrow
        have HQ := Lib.hid hb
        have HPQ := Lib.hid (And.intro hp hq)
        have hnl := Lib.hid (show out.length ≤ 2000 by
          have h := congrArg List.length hout
          rw [List.length_append] at h
          have := diffL_len la lb
          have := LM.out
          have := HM.out
          have := HN.out
          omega)
        clear hout hrow hb
        have hp0 : (0 : Int) ≤ (p : Int) := by omega
        have hq0 : (0 : Int) ≤ (q : Int) := by omega
        have hpb : (p : Int) ≤ 9223372036854775806 := by have := LM.out; omega
        have hqb : (q : Int) ≤ 9223372036854775806 := by have := LM.out; omega
        clear hp hq
        have HX := Lib.hid (fun (h : p < m) => (⟨_, List.getElem?_eq_getElem (by have := HM.out; omega)⟩ : ∃ x, la[p]? = some x))
        have HY := Lib.hid (fun (h : q < n) => (⟨_, List.getElem?_eq_getElem (by have := HN.out; omega)⟩ : ∃ y, lb[q]? = some y))
        by_cases hpm : p < m
        · obtain ⟨x, hx⟩ := HX.out hpm
          obtain ⟨ba, rfl, _⟩ := (HAV.out.later HQ.out).at hx
          have wx := HAV.out.wide hx
          have x0 := KA.out.2.2 x (List.mem_of_getElem? hx)
          have HCX := Lib.hid (fun (X : World) (hX : Below W2.heap.size W2 X) => (HAV.out.later hX).at' hx)
          have DX := Lib.hid (drop_at hx)
          have hpI : (p : Int) < (m : Int) := by omega
          have hpN : ((p : Int) == (m : Int)) = false := by rw [beq_eq_false_iff_ne]; omega
          have HPM := Lib.hid hpm
          by_cases hqn : q < n
          · obtain ⟨y, hy⟩ := HY.out hqn
            obtain ⟨bb, rfl, _⟩ := (HBV.out.later HQ.out).at hy
            have wy := HBV.out.wide hy
            have y0 := KB.out.2.2 y (List.mem_of_getElem? hy)
            have HCY := Lib.hid (fun (X : World) (hX : Below W2.heap.size W2 X) => (HBV.out.later hX).at' hy)
            have DY := Lib.hid (drop_at hy)
            have hqI : (q : Int) < (n : Int) := by omega
            have hqN : ((q : Int) == (n : Int)) = false := by rw [beq_eq_false_iff_ne]; omega
            have HQN := Lib.hid hqn
            have CR0 := refCmp_ret x.1 y.1 wx.1 wy.1
            have HLT := Lib.hid (wcmp_lt x.1 y.1)
            have HGT := Lib.hid (wcmp_gt x.1 y.1)
            have HEQ := Lib.hid (eqv_w x.2 y.2 wx.2 wy.2)
            have HNZ := Lib.hid (And.intro x0 y0)
            unfold wv at CR0
            have CR := Lib.hid CR0
            clear CR0 hx hy wx wy x0 y0 hpm hqn HX HY
            generalize wcmp x.1 y.1 = cm at *
            rcases Nat.lt_trichotomy x.1 y.1 with hlt | heq | hgt
            · have hc : cm < 0 := HLT.out.2 hlt
              have hlt' := Lib.hid hlt
              clear hlt
              have kx0 := fun z : Ext wr => (HCX.out z.w (HQ.out.trans (z.below.mono HQ.out.size))).1
              have ky0 := fun z : Ext wr => (HCY.out z.w (HQ.out.trans (z.below.mono HQ.out.size))).1
              have kx1 := fun z : Ext wr => (HCX.out z.w (HQ.out.trans (z.below.mono HQ.out.size))).2.1
              have ky1 := fun z : Ext wr => (HCY.out z.w (HQ.out.trans (z.below.mono HQ.out.size))).2.1
              have kx2 := fun z : Ext wr => (HCX.out z.w (HQ.out.trans (z.below.mono HQ.out.size))).2.2.1
              have ky2 := fun z : Ext wr => (HCY.out z.w (HQ.out.trans (z.below.mono HQ.out.size))).2.2.1
              have kx3 := fun z : Ext wr => (HCX.out z.w (HQ.out.trans (z.below.mono HQ.out.size))).2.2.2.1
              have ky3 := fun z : Ext wr => (HCY.out z.w (HQ.out.trans (z.below.mono HQ.out.size))).2.2.2.1
              go_wp2_with fail
              refine wp_region_quietL (C := Grows wr) hmx (by kernel_rfl) (grows_refl wr) ?_
              repeat (go_big_quiet_step (first | (with_reducible exact Ret.at CR.out _)))
              refine wpQuiet_nil ?_
              rintro _ ⟨z1, rfl⟩
              have Q3 := Lib.hid (HQ.out.trans (z1.below.mono HQ.out.size))
              have R3 := Lib.hid (HR.out.later z1.below)
              clear kx0 ky0 kx1 ky1 kx2 ky2 kx3 ky3
              have p0 := (HCX.out z1.w Q3.out).1
              have p1 := (HCX.out z1.w Q3.out).2.1
              have p2 := (HCX.out z1.w Q3.out).2.2.1
              have p3 := (HCX.out z1.w Q3.out).2.2.2.1
              obtain ⟨v5, W5, hr0, hrw, hbw⟩ := push_slot z1.w W2.heap.size (u6) out R3.out Q3.out.size (by have := hnl.out; omega) (x.1, 0)
              simp only [slC, lim_zero] at hr0
              have hr : (Builtin.append_ #[22, 22] 22 #[u6, .slice (some ⟨z1.w.heap.size, 0, none⟩) 1 1]).run Try.prog (z1.w.alloc (.cells #[.int .u64 (lim x.1 0), .int .u64 (lim x.1 1), .int .u64 (lim x.1 2), .int .u64 (lim x.1 3), .int .u64 0, .int .u64 0, .int .u64 0, .int .u64 0] 31)) = .ok v5 W5 := hr0
              have R5 := Lib.hid hrw
              have Q5 := Lib.hid (Q3.out.trans hbw)
              clear hr0 hrw hbw
              go_wp2_with (at_builtin; refine wpList_append_run rfl (.tmp 74) (.tmp 81) 22 rfl _ _ _ rfl rfl hr ?_)
              clear hr p0 p1 p2 p3
              clear hc
              go_roundw
              case rel => exact ⟨p + 1, q, out ++ [(x.1, 0)], by have := HPQ.out; (try have := HPM.out); omega, by have := HPQ.out; (try have := HQN.out); omega, by simp, by simp, by have h := HO.out; rw [DX.out, DY.out, diff_lt hlt'.out HNZ.out.1] at h; rw [DY.out, List.append_assoc]; exact h, R5.out, Q5.out⟩
              case measure => (try have := HPM.out); (try have := HQN.out); have := HPQ.out; simp [intOf]; omega
            · by_cases hv : x.2 = y.2
              · have hc : ¬ cm < 0 := fun h => by have := HLT.out.1 h; omega
                have hc2 : ¬ 0 < cm := fun h => by have := HGT.out.1 h; omega
                have heq' := Lib.hid heq
                clear heq
                have kx0 := fun z : Ext wr => (HCX.out z.w (HQ.out.trans (z.below.mono HQ.out.size))).1
                have ky0 := fun z : Ext wr => (HCY.out z.w (HQ.out.trans (z.below.mono HQ.out.size))).1
                have kx1 := fun z : Ext wr => (HCX.out z.w (HQ.out.trans (z.below.mono HQ.out.size))).2.1
                have ky1 := fun z : Ext wr => (HCY.out z.w (HQ.out.trans (z.below.mono HQ.out.size))).2.1
                have kx2 := fun z : Ext wr => (HCX.out z.w (HQ.out.trans (z.below.mono HQ.out.size))).2.2.1
                have ky2 := fun z : Ext wr => (HCY.out z.w (HQ.out.trans (z.below.mono HQ.out.size))).2.2.1
                have kx3 := fun z : Ext wr => (HCX.out z.w (HQ.out.trans (z.below.mono HQ.out.size))).2.2.2.1
                have ky3 := fun z : Ext wr => (HCY.out z.w (HQ.out.trans (z.below.mono HQ.out.size))).2.2.2.1
                go_wp2_with fail
                refine wp_region_quietL (C := Grows wr) hmx (by kernel_rfl) (grows_refl wr) ?_
                repeat (go_big_quiet_step (first | (with_reducible exact Ret.at CR.out _)))
                refine wpQuiet_nil ?_
                rintro _ ⟨z1, rfl⟩
                have Q3 := Lib.hid (HQ.out.trans (z1.below.mono HQ.out.size))
                have R3 := Lib.hid (HR.out.later z1.below)
                clear kx0 ky0 kx1 ky1 kx2 ky2 kx3 ky3
                have kx0 := fun z : Ext z1.w => (HCX.out z.w (Q3.out.trans (z.below.mono Q3.out.size))).1
                have ky0 := fun z : Ext z1.w => (HCY.out z.w (Q3.out.trans (z.below.mono Q3.out.size))).1
                have kx1 := fun z : Ext z1.w => (HCX.out z.w (Q3.out.trans (z.below.mono Q3.out.size))).2.1
                have ky1 := fun z : Ext z1.w => (HCY.out z.w (Q3.out.trans (z.below.mono Q3.out.size))).2.1
                have kx2 := fun z : Ext z1.w => (HCX.out z.w (Q3.out.trans (z.below.mono Q3.out.size))).2.2.1
                have ky2 := fun z : Ext z1.w => (HCY.out z.w (Q3.out.trans (z.below.mono Q3.out.size))).2.2.1
                have kx3 := fun z : Ext z1.w => (HCX.out z.w (Q3.out.trans (z.below.mono Q3.out.size))).2.2.2.1
                have ky3 := fun z : Ext z1.w => (HCY.out z.w (Q3.out.trans (z.below.mono Q3.out.size))).2.2.2.1
                go_wp2_with fail
                refine wp_region_quietL (C := Grows z1.w) hmx (by kernel_rfl) (grows_refl z1.w) ?_
                repeat (go_big_quiet_step (first | (with_reducible exact Ret.at CR.out _)))
                refine wpQuiet_nil ?_
                clear hc
                rintro _ ⟨z2, rfl⟩
                have Q4 := Lib.hid (Q3.out.trans (z2.below.mono Q3.out.size))
                have R4 := Lib.hid (R3.out.later z2.below)
                clear kx0 ky0 kx1 ky1 kx2 ky2 kx3 ky3
                have hE := HEQ.out.trans (decide_eq_true hv)
                have Hhv := Lib.hid hv
                clear hv
                have kx4 := fun z : Ext z2.w => (HCX.out z.w (Q4.out.trans (z.below.mono Q4.out.size))).2.2.2.2.1
                have ky4 := fun z : Ext z2.w => (HCY.out z.w (Q4.out.trans (z.below.mono Q4.out.size))).2.2.2.2.1
                have kx5 := fun z : Ext z2.w => (HCX.out z.w (Q4.out.trans (z.below.mono Q4.out.size))).2.2.2.2.2.1
                have ky5 := fun z : Ext z2.w => (HCY.out z.w (Q4.out.trans (z.below.mono Q4.out.size))).2.2.2.2.2.1
                have kx6 := fun z : Ext z2.w => (HCX.out z.w (Q4.out.trans (z.below.mono Q4.out.size))).2.2.2.2.2.2.1
                have ky6 := fun z : Ext z2.w => (HCY.out z.w (Q4.out.trans (z.below.mono Q4.out.size))).2.2.2.2.2.2.1
                have kx7 := fun z : Ext z2.w => (HCX.out z.w (Q4.out.trans (z.below.mono Q4.out.size))).2.2.2.2.2.2.2
                have ky7 := fun z : Ext z2.w => (HCY.out z.w (Q4.out.trans (z.below.mono Q4.out.size))).2.2.2.2.2.2.2
                go_wp2_with fail
                clear hc2
                refine wp_region_quietL (C := Grows z2.w) hmx (by kernel_rfl) (grows_refl z2.w) ?_
                repeat (go_big_quiet_step (fail))
                refine wpQuiet_nil ?_
                rintro _ ⟨z3, rfl⟩
                have Q6 := Lib.hid (Q4.out.trans (z3.below.mono Q4.out.size))
                have R6 := Lib.hid (R4.out.later z3.below)
                clear kx4 ky4 kx5 ky5 kx6 ky6 kx7 ky7
                go_wp2_with fail
                clear hE
                go_roundw
                case rel => exact ⟨p + 1, q + 1, out, by have := HPQ.out; (try have := HPM.out); omega, by have := HPQ.out; (try have := HQN.out); omega, by simp, by simp, by have h := HO.out; rw [DX.out, DY.out, diff_eq heq'.out Hhv.out] at h; exact h, R6.out, Q6.out⟩
                case measure => (try have := HPM.out); (try have := HQN.out); have := HPQ.out; simp [intOf]; omega
              · have hc : ¬ cm < 0 := fun h => by have := HLT.out.1 h; omega
                have hc2 : ¬ 0 < cm := fun h => by have := HGT.out.1 h; omega
                have heq' := Lib.hid heq
                clear heq
                have kx0 := fun z : Ext wr => (HCX.out z.w (HQ.out.trans (z.below.mono HQ.out.size))).1
                have ky0 := fun z : Ext wr => (HCY.out z.w (HQ.out.trans (z.below.mono HQ.out.size))).1
                have kx1 := fun z : Ext wr => (HCX.out z.w (HQ.out.trans (z.below.mono HQ.out.size))).2.1
                have ky1 := fun z : Ext wr => (HCY.out z.w (HQ.out.trans (z.below.mono HQ.out.size))).2.1
                have kx2 := fun z : Ext wr => (HCX.out z.w (HQ.out.trans (z.below.mono HQ.out.size))).2.2.1
                have ky2 := fun z : Ext wr => (HCY.out z.w (HQ.out.trans (z.below.mono HQ.out.size))).2.2.1
                have kx3 := fun z : Ext wr => (HCX.out z.w (HQ.out.trans (z.below.mono HQ.out.size))).2.2.2.1
                have ky3 := fun z : Ext wr => (HCY.out z.w (HQ.out.trans (z.below.mono HQ.out.size))).2.2.2.1
                go_wp2_with fail
                refine wp_region_quietL (C := Grows wr) hmx (by kernel_rfl) (grows_refl wr) ?_
                repeat (go_big_quiet_step (first | (with_reducible exact Ret.at CR.out _)))
                refine wpQuiet_nil ?_
                rintro _ ⟨z1, rfl⟩
                have Q3 := Lib.hid (HQ.out.trans (z1.below.mono HQ.out.size))
                have R3 := Lib.hid (HR.out.later z1.below)
                clear kx0 ky0 kx1 ky1 kx2 ky2 kx3 ky3
                have kx0 := fun z : Ext z1.w => (HCX.out z.w (Q3.out.trans (z.below.mono Q3.out.size))).1
                have ky0 := fun z : Ext z1.w => (HCY.out z.w (Q3.out.trans (z.below.mono Q3.out.size))).1
                have kx1 := fun z : Ext z1.w => (HCX.out z.w (Q3.out.trans (z.below.mono Q3.out.size))).2.1
                have ky1 := fun z : Ext z1.w => (HCY.out z.w (Q3.out.trans (z.below.mono Q3.out.size))).2.1
                have kx2 := fun z : Ext z1.w => (HCX.out z.w (Q3.out.trans (z.below.mono Q3.out.size))).2.2.1
                have ky2 := fun z : Ext z1.w => (HCY.out z.w (Q3.out.trans (z.below.mono Q3.out.size))).2.2.1
                have kx3 := fun z : Ext z1.w => (HCX.out z.w (Q3.out.trans (z.below.mono Q3.out.size))).2.2.2.1
                have ky3 := fun z : Ext z1.w => (HCY.out z.w (Q3.out.trans (z.below.mono Q3.out.size))).2.2.2.1
                go_wp2_with fail
                refine wp_region_quietL (C := Grows z1.w) hmx (by kernel_rfl) (grows_refl z1.w) ?_
                repeat (go_big_quiet_step (first | (with_reducible exact Ret.at CR.out _)))
                refine wpQuiet_nil ?_
                clear hc
                rintro _ ⟨z2, rfl⟩
                have Q4 := Lib.hid (Q3.out.trans (z2.below.mono Q3.out.size))
                have R4 := Lib.hid (R3.out.later z2.below)
                clear kx0 ky0 kx1 ky1 kx2 ky2 kx3 ky3
                have hE := HEQ.out.trans (decide_eq_false hv)
                have Hhv := Lib.hid hv
                clear hv
                have kx4 := fun z : Ext z2.w => (HCX.out z.w (Q4.out.trans (z.below.mono Q4.out.size))).2.2.2.2.1
                have ky4 := fun z : Ext z2.w => (HCY.out z.w (Q4.out.trans (z.below.mono Q4.out.size))).2.2.2.2.1
                have kx5 := fun z : Ext z2.w => (HCX.out z.w (Q4.out.trans (z.below.mono Q4.out.size))).2.2.2.2.2.1
                have ky5 := fun z : Ext z2.w => (HCY.out z.w (Q4.out.trans (z.below.mono Q4.out.size))).2.2.2.2.2.1
                have kx6 := fun z : Ext z2.w => (HCX.out z.w (Q4.out.trans (z.below.mono Q4.out.size))).2.2.2.2.2.2.1
                have ky6 := fun z : Ext z2.w => (HCY.out z.w (Q4.out.trans (z.below.mono Q4.out.size))).2.2.2.2.2.2.1
                have kx7 := fun z : Ext z2.w => (HCX.out z.w (Q4.out.trans (z.below.mono Q4.out.size))).2.2.2.2.2.2.2
                have ky7 := fun z : Ext z2.w => (HCY.out z.w (Q4.out.trans (z.below.mono Q4.out.size))).2.2.2.2.2.2.2
                go_wp2_with fail
                clear hc2
                refine wp_region_quietL (C := Grows z2.w) hmx (by kernel_rfl) (grows_refl z2.w) ?_
                repeat (go_big_quiet_step (fail))
                refine wpQuiet_nil ?_
                rintro _ ⟨z3, rfl⟩
                have Q6 := Lib.hid (Q4.out.trans (z3.below.mono Q4.out.size))
                have R6 := Lib.hid (R4.out.later z3.below)
                clear kx4 ky4 kx5 ky5 kx6 ky6 kx7 ky7
                have p0 := (HCY.out z3.w Q6.out).1
                have p1 := (HCY.out z3.w Q6.out).2.1
                have p2 := (HCY.out z3.w Q6.out).2.2.1
                have p3 := (HCY.out z3.w Q6.out).2.2.2.1
                have p4 := (HCY.out z3.w Q6.out).2.2.2.2.1
                have p5 := (HCY.out z3.w Q6.out).2.2.2.2.2.1
                have p6 := (HCY.out z3.w Q6.out).2.2.2.2.2.2.1
                have p7 := (HCY.out z3.w Q6.out).2.2.2.2.2.2.2
                obtain ⟨v5, W5, hr0, hrw, hbw⟩ := push_slot z3.w W2.heap.size (u6) out R6.out Q6.out.size (by have := hnl.out; omega) y
                have hr : (Builtin.append_ #[22, 22] 22 #[u6, .slice (some ⟨z3.w.heap.size, 0, none⟩) 1 1]).run Try.prog (z3.w.alloc (.cells #[.int .u64 (lim y.1 0), .int .u64 (lim y.1 1), .int .u64 (lim y.1 2), .int .u64 (lim y.1 3), .int .u64 (lim y.2 0), .int .u64 (lim y.2 1), .int .u64 (lim y.2 2), .int .u64 (lim y.2 3)] 31)) = .ok v5 W5 := hr0
                have R5 := Lib.hid hrw
                have Q5 := Lib.hid (Q6.out.trans hbw)
                clear hr0 hrw hbw
                go_wp2_with (at_builtin; refine wpList_append_run rfl (.tmp 38) (.tmp 43) 22 rfl _ _ _ rfl rfl hr ?_)
                clear hr p0 p1 p2 p3 p4 p5 p6 p7
                clear hE
                go_roundw
                case rel => exact ⟨p + 1, q + 1, out ++ [y], by have := HPQ.out; (try have := HPM.out); omega, by have := HPQ.out; (try have := HQN.out); omega, by simp, by simp, by have h := HO.out; rw [DX.out, DY.out, diff_ne heq'.out Hhv.out] at h; rw [List.append_assoc]; exact h, R5.out, Q5.out⟩
                case measure => (try have := HPM.out); (try have := HQN.out); have := HPQ.out; simp [intOf]; omega
            · have hc : ¬ cm < 0 := fun h => by have := HLT.out.1 h; omega
              have hc2 : 0 < cm := HGT.out.2 hgt
              have hgt' := Lib.hid hgt
              clear hgt
              have kx0 := fun z : Ext wr => (HCX.out z.w (HQ.out.trans (z.below.mono HQ.out.size))).1
              have ky0 := fun z : Ext wr => (HCY.out z.w (HQ.out.trans (z.below.mono HQ.out.size))).1
              have kx1 := fun z : Ext wr => (HCX.out z.w (HQ.out.trans (z.below.mono HQ.out.size))).2.1
              have ky1 := fun z : Ext wr => (HCY.out z.w (HQ.out.trans (z.below.mono HQ.out.size))).2.1
              have kx2 := fun z : Ext wr => (HCX.out z.w (HQ.out.trans (z.below.mono HQ.out.size))).2.2.1
              have ky2 := fun z : Ext wr => (HCY.out z.w (HQ.out.trans (z.below.mono HQ.out.size))).2.2.1
              have kx3 := fun z : Ext wr => (HCX.out z.w (HQ.out.trans (z.below.mono HQ.out.size))).2.2.2.1
              have ky3 := fun z : Ext wr => (HCY.out z.w (HQ.out.trans (z.below.mono HQ.out.size))).2.2.2.1
              go_wp2_with fail
              refine wp_region_quietL (C := Grows wr) hmx (by kernel_rfl) (grows_refl wr) ?_
              repeat (go_big_quiet_step (first | (with_reducible exact Ret.at CR.out _)))
              refine wpQuiet_nil ?_
              rintro _ ⟨z1, rfl⟩
              have Q3 := Lib.hid (HQ.out.trans (z1.below.mono HQ.out.size))
              have R3 := Lib.hid (HR.out.later z1.below)
              clear kx0 ky0 kx1 ky1 kx2 ky2 kx3 ky3
              have kx0 := fun z : Ext z1.w => (HCX.out z.w (Q3.out.trans (z.below.mono Q3.out.size))).1
              have ky0 := fun z : Ext z1.w => (HCY.out z.w (Q3.out.trans (z.below.mono Q3.out.size))).1
              have kx1 := fun z : Ext z1.w => (HCX.out z.w (Q3.out.trans (z.below.mono Q3.out.size))).2.1
              have ky1 := fun z : Ext z1.w => (HCY.out z.w (Q3.out.trans (z.below.mono Q3.out.size))).2.1
              have kx2 := fun z : Ext z1.w => (HCX.out z.w (Q3.out.trans (z.below.mono Q3.out.size))).2.2.1
              have ky2 := fun z : Ext z1.w => (HCY.out z.w (Q3.out.trans (z.below.mono Q3.out.size))).2.2.1
              have kx3 := fun z : Ext z1.w => (HCX.out z.w (Q3.out.trans (z.below.mono Q3.out.size))).2.2.2.1
              have ky3 := fun z : Ext z1.w => (HCY.out z.w (Q3.out.trans (z.below.mono Q3.out.size))).2.2.2.1
              go_wp2_with fail
              refine wp_region_quietL (C := Grows z1.w) hmx (by kernel_rfl) (grows_refl z1.w) ?_
              repeat (go_big_quiet_step (first | (with_reducible exact Ret.at CR.out _)))
              refine wpQuiet_nil ?_
              clear hc
              rintro _ ⟨z2, rfl⟩
              have Q4 := Lib.hid (Q3.out.trans (z2.below.mono Q3.out.size))
              have R4 := Lib.hid (R3.out.later z2.below)
              clear kx0 ky0 kx1 ky1 kx2 ky2 kx3 ky3
              have p0 := (HCY.out z2.w Q4.out).1
              have p1 := (HCY.out z2.w Q4.out).2.1
              have p2 := (HCY.out z2.w Q4.out).2.2.1
              have p3 := (HCY.out z2.w Q4.out).2.2.2.1
              have p4 := (HCY.out z2.w Q4.out).2.2.2.2.1
              have p5 := (HCY.out z2.w Q4.out).2.2.2.2.2.1
              have p6 := (HCY.out z2.w Q4.out).2.2.2.2.2.2.1
              have p7 := (HCY.out z2.w Q4.out).2.2.2.2.2.2.2
              obtain ⟨v5, W5, hr0, hrw, hbw⟩ := push_slot z2.w W2.heap.size (u6) out R4.out Q4.out.size (by have := hnl.out; omega) y
              have hr : (Builtin.append_ #[22, 22] 22 #[u6, .slice (some ⟨z2.w.heap.size, 0, none⟩) 1 1]).run Try.prog (z2.w.alloc (.cells #[.int .u64 (lim y.1 0), .int .u64 (lim y.1 1), .int .u64 (lim y.1 2), .int .u64 (lim y.1 3), .int .u64 (lim y.2 0), .int .u64 (lim y.2 1), .int .u64 (lim y.2 2), .int .u64 (lim y.2 3)] 31)) = .ok v5 W5 := hr0
              have R5 := Lib.hid hrw
              have Q5 := Lib.hid (Q4.out.trans hbw)
              clear hr0 hrw hbw
              go_wp2_with (at_builtin; refine wpList_append_run rfl (.tmp 104) (.tmp 109) 22 rfl _ _ _ rfl rfl hr ?_)
              clear hr p0 p1 p2 p3 p4 p5 p6 p7
              clear hc2
              go_roundw
              case rel => exact ⟨p, q + 1, out ++ [y], by have := HPQ.out; (try have := HPM.out); omega, by have := HPQ.out; (try have := HQN.out); omega, by simp, by simp, by have h := HO.out; rw [DX.out, DY.out, diff_gt hgt'.out HNZ.out.2] at h; rw [DX.out, List.append_assoc]; exact h, R5.out, Q5.out⟩
              case measure => (try have := HPM.out); (try have := HQN.out); have := HPQ.out; simp [intOf]; omega
          · have hqI : ¬ (q : Int) < (n : Int) := by omega
            obtain rfl : q = n := by have := HPQ.out.2; omega
            have DY := Lib.hid (show lb.drop q = [] from List.drop_of_length_le (by have := HN.out; omega))
            have HNZ := Lib.hid x0
            clear hx wx x0 hpm hqn HX HY
            go_wp2_with fail
            refine wp_region_quietL (C := Grows wr) hmx (by kernel_rfl) (grows_refl wr) ?_
            repeat (go_big_quiet_step (fail))
            refine wpQuiet_nil ?_
            rintro _ ⟨z1, rfl⟩
            have Q3 := Lib.hid (HQ.out.trans (z1.below.mono HQ.out.size))
            have R3 := Lib.hid (HR.out.later z1.below)
            have p0 := (HCX.out z1.w Q3.out).1
            have p1 := (HCX.out z1.w Q3.out).2.1
            have p2 := (HCX.out z1.w Q3.out).2.2.1
            have p3 := (HCX.out z1.w Q3.out).2.2.2.1
            obtain ⟨v5, W5, hr0, hrw, hbw⟩ := push_slot z1.w W2.heap.size (u6) out R3.out Q3.out.size (by have := hnl.out; omega) (x.1, 0)
            simp only [slC, lim_zero] at hr0
            have hr : (Builtin.append_ #[22, 22] 22 #[u6, .slice (some ⟨z1.w.heap.size, 0, none⟩) 1 1]).run Try.prog (z1.w.alloc (.cells #[.int .u64 (lim x.1 0), .int .u64 (lim x.1 1), .int .u64 (lim x.1 2), .int .u64 (lim x.1 3), .int .u64 0, .int .u64 0, .int .u64 0, .int .u64 0] 31)) = .ok v5 W5 := hr0
            have R5 := Lib.hid hrw
            have Q5 := Lib.hid (Q3.out.trans hbw)
            clear hr0 hrw hbw
            go_wp2_with (at_builtin; refine wpList_append_run rfl (.tmp 74) (.tmp 81) 22 rfl _ _ _ rfl rfl hr ?_)
            clear hr p0 p1 p2 p3
            go_roundw
            case rel => exact ⟨p + 1, q, out ++ [(x.1, 0)], by have := HPQ.out; (try have := HPM.out); omega, by have := HPQ.out; (try have := HQN.out); omega, by simp, by simp, by have h := HO.out; rw [DX.out, DY.out, diff_nil_r HNZ.out] at h; rw [DY.out, List.append_assoc]; exact h, R5.out, Q5.out⟩
            case measure => (try have := HPM.out); (try have := HQN.out); have := HPQ.out; simp [intOf]; omega
        · have hpI : ¬ (p : Int) < (m : Int) := by omega
          obtain rfl : p = m := by have := HPQ.out.1; omega
          have DX := Lib.hid (show la.drop p = [] from List.drop_of_length_le (by have := HM.out; omega))
          by_cases hqn : q < n
          · obtain ⟨y, hy⟩ := HY.out hqn
            obtain ⟨bb, rfl, _⟩ := (HBV.out.later HQ.out).at hy
            have y0 := KB.out.2.2 y (List.mem_of_getElem? hy)
            have HCY := Lib.hid (fun (X : World) (hX : Below W2.heap.size W2 X) => (HBV.out.later hX).at' hy)
            have DY := Lib.hid (drop_at hy)
            have hqI : (q : Int) < (n : Int) := by omega
            have hqN : ((q : Int) == (n : Int)) = false := by rw [beq_eq_false_iff_ne]; omega
            have HQN := Lib.hid hqn
            have HNZ := Lib.hid y0
            clear hy y0 hpm hqn HX HY
            go_wp2_with fail
            refine wp_region_quietL (C := Grows wr) hmx (by kernel_rfl) (grows_refl wr) ?_
            repeat (go_big_quiet_step (fail))
            refine wpQuiet_nil ?_
            rintro _ ⟨z1, rfl⟩
            have Q3 := Lib.hid (HQ.out.trans (z1.below.mono HQ.out.size))
            have R3 := Lib.hid (HR.out.later z1.below)
            go_wp2_with fail
            refine wp_region_quietL (C := Grows z1.w) hmx (by kernel_rfl) (grows_refl z1.w) ?_
            repeat (go_big_quiet_step (fail))
            refine wpQuiet_nil ?_
            rintro _ ⟨z2, rfl⟩
            have Q4 := Lib.hid (Q3.out.trans (z2.below.mono Q3.out.size))
            have R4 := Lib.hid (R3.out.later z2.below)
            have p0 := (HCY.out z2.w Q4.out).1
            have p1 := (HCY.out z2.w Q4.out).2.1
            have p2 := (HCY.out z2.w Q4.out).2.2.1
            have p3 := (HCY.out z2.w Q4.out).2.2.2.1
            have p4 := (HCY.out z2.w Q4.out).2.2.2.2.1
            have p5 := (HCY.out z2.w Q4.out).2.2.2.2.2.1
            have p6 := (HCY.out z2.w Q4.out).2.2.2.2.2.2.1
            have p7 := (HCY.out z2.w Q4.out).2.2.2.2.2.2.2
            obtain ⟨v5, W5, hr0, hrw, hbw⟩ := push_slot z2.w W2.heap.size (u6) out R4.out Q4.out.size (by have := hnl.out; omega) y
            have hr : (Builtin.append_ #[22, 22] 22 #[u6, .slice (some ⟨z2.w.heap.size, 0, none⟩) 1 1]).run Try.prog (z2.w.alloc (.cells #[.int .u64 (lim y.1 0), .int .u64 (lim y.1 1), .int .u64 (lim y.1 2), .int .u64 (lim y.1 3), .int .u64 (lim y.2 0), .int .u64 (lim y.2 1), .int .u64 (lim y.2 2), .int .u64 (lim y.2 3)] 31)) = .ok v5 W5 := hr0
            have R5 := Lib.hid hrw
            have Q5 := Lib.hid (Q4.out.trans hbw)
            clear hr0 hrw hbw
            go_wp2_with (at_builtin; refine wpList_append_run rfl (.tmp 104) (.tmp 109) 22 rfl _ _ _ rfl rfl hr ?_)
            clear hr p0 p1 p2 p3 p4 p5 p6 p7
            go_roundw
            case rel => exact ⟨p, q + 1, out ++ [y], by have := HPQ.out; (try have := HPM.out); omega, by have := HPQ.out; (try have := HQN.out); omega, by simp, by simp, by have h := HO.out; rw [DX.out, DY.out, diff_nil_l HNZ.out] at h; rw [DX.out, List.append_assoc]; exact h, R5.out, Q5.out⟩
            case measure => (try have := HPM.out); (try have := HQN.out); have := HPQ.out; simp [intOf]; omega
          · have hqI : ¬ (q : Int) < (n : Int) := by omega
            obtain rfl : q = n := by have := HPQ.out.2; omega
            have DY := Lib.hid (show lb.drop q = [] from List.drop_of_length_le (by have := HN.out; omega))
            clear hpm hqn HX HY
            have he : out = diffL la lb := by
              have h := HO.out
              rw [DX.out, DY.out] at h
              rw [show diffL [] [] = [] from by unfold diffL; rw [bothL]; rfl, List.append_nil] at h
              exact h
            subst he
            have QE := Lib.hid (Q2.out.trans (HQ.out.mono Q2.out.size))
            have HRE := Lib.hid (HR.out.lower Q2.out.size)
            obtain ⟨ao, co, rfl⟩ := HR.out.shape
            obtain ⟨nm, hnm⟩ : ∃ nm, (diffL la lb).length = nm := ⟨_, rfl⟩
            have HNM := Lib.hid hnm
            rw [hnm] at HRE ⊢
            have hnb : (nm : Int) ≤ 9223372036854775806 := by
              rw [← hnm]
              have := hnl.out
              omega
            clear hnm HR HQ Q2 HAV HBV HO hnl
            by_cases hle : nm ≤ 1000
            · have hleI : ¬ 1000 < (nm : Int) := by omega
              have HLE := Lib.hid hle
              clear hle
              go_wp2_with fail
              go_ret2
              exact ⟨.inl ⟨rfl, by rw [HNM.out]; exact HLE.out, _, rfl, HRE.out⟩, QE.out⟩
            · have hleI : 1000 < (nm : Int) := by omega
              have HLE := Lib.hid hle
              clear hle
              go_wp2_with fail
              go_ret2
              exact ⟨.inr (.inl ⟨rfl, by rw [HNM.out]; exact HLE.out, rfl⟩), QE.out⟩
end Go.Proofs.Ytcannohmbaaceaa
