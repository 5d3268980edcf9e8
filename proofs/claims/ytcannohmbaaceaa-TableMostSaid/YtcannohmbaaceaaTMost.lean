/- TableMost. Conditions: none. -/
import Derived.Test.YtcannohmbaaceaaTabW
import Derived.Test.YtcannohmbaaceaaTBack
namespace Go.Proofs.Ytcannohmbaaceaa
open Go Go.RowKit
attribute [local go_sem] Oper.semAt_some Grows wide_fn eq4

theorem of_nat (c : Int) (n : Nat) (hc : c = (n : Int)) (h : n < 100000) : Ret Try.prog 22 #[.int .i64 c] (.agg #[.int .u64 (lim n 0), .int .u64 (lim n 1), .int .u64 (lim n 2), .int .u64 (lim n 3)]) := by
  subst hc
  have h1 := refOf_ret (n : Int) (by unfold I64; omega)
  rw [show ofN (n : Int) = n by unfold ofN; rw [if_neg (by omega)]; omega] at h1
  exact h1
theorem wide_n (n : Nat) (h : n < 100000) : W256 n := by unfold W256; omega
theorem evL_wide {n : Nat} (h : n < 10000) : ∀ x ∈ evL n, W256 x.1 ∧ W256 x.2 := fun x hx => by
  obtain ⟨i, hi, rfl⟩ := evL_mem.1 hx
  exact ⟨wide_n _ (by omega), wide_n 1 (by omega)⟩
theorem evL_right (n : Nat) : rightB' (evL n) = decide (n ≤ 1000) := by
  rw [Bool.eq_iff_iff, rightB_iff', evL_len, decide_eq_true_eq]
  exact ⟨fun h => h.1, fun h => ⟨h, evL_kept n⟩⟩
set_option maxRecDepth 100000 in
set_option maxHeartbeats 8000000 in
theorem tmost_ret (W : World) (less : Int) (h0 : I64 less) (key : Int) (h1 : I64 key) (value : Int) (h2 : I64 value) :
    Calls Try.prog 5 #[.int .i64 less, .int .i64 key, .int .i64 value] W fun e w' => e = .returned (.bool true) ∧ Below W.heap.size W w' := by
  have HA := Lib.hid (awake_any W)
  have P1 := pick_ret less h0 4 (by omega) (by omega)
  have P2 := pick_ret key h1 2200 (by omega) (by omega)
  have P3 := pick_ret value h2 3 (by omega) (by omega)
  have r1 := pickN_range less 4 (by omega)
  have r2 := pickN_range key 2200 (by omega)
  have r3 := pickN_range value 3 (by omega)
  obtain ⟨q, hq0⟩ : ∃ q : Nat, pickN less 4 = (q : Int) := ⟨_, (Int.toNat_of_nonneg r1.1).symm⟩
  obtain ⟨k, hk0⟩ : ∃ k : Nat, pickN key 2200 = (k : Int) := ⟨_, (Int.toNat_of_nonneg r2.1).symm⟩
  obtain ⟨v, hv0⟩ : ∃ v : Nat, pickN value 3 = (v : Int) := ⟨_, (Int.toNat_of_nonneg r3.1).symm⟩
  rw [hq0] at P1 r1
  rw [hk0] at P2 r2
  rw [hv0] at P3 r3
  obtain ⟨n, hn⟩ : ∃ n : Nat, 998 + (q : Int) = (n : Int) := ⟨998 + q, by omega⟩
  have HN := Lib.hid (show 998 ≤ n ∧ n ≤ 1001 by omega)
  have HK := Lib.hid (show k < 2200 ∧ v < 3 by omega)
  replace P1 := Lib.hid P1
  replace P2 := Lib.hid P2
  replace P3 := Lib.hid P3
  have O1 := Lib.hid (of_small 1 (by omega))
  simp only [Int.cast_ofNat_Int] at O1
  have OK := Lib.hid (of_nat (k : Int) k rfl (by have := HK.out; omega))
  have OV := Lib.hid (of_nat (v : Int) v rfl (by have := HK.out; omega))
  clear hq0 hk0 hv0 h0 h1 h2 r2 r3
  go_enter Try.func5, Try.ntmps5
  go_wp2_with fail
  refine HA.out.mono ?_
  rintro e w1 ⟨rfl, hq⟩
  have Q := Lib.hid hq
  clear hq HA
  go_wp2_with fail
  refine (P1.out _).mono ?_
  rintro e w2 ⟨rfl, hq⟩
  have Q2 := Lib.hid (Q.out.trans (hq.mono Q.out.size))
  clear hq Q P1
  go_wp2_with fail
  clear r1 hn
  go_loopw [8, 10] (fun lv i wr => ∃ j : Nat, j ≤ n ∧ i = .int .i64 (j : Int) ∧ RowT wr w2.heap.size lv (evL j) ∧ Below w2.heap.size w2 wr) (fun _ i _ => n - (intOf i).toNat)
  case atStart => exact ⟨0, by omega, rfl, ⟨rfl, .inl ⟨rfl, rfl⟩⟩, Below.refl _ _⟩
  case round =>
    obtain ⟨j, hj, rfl, hrow, hq⟩ := hrel
    have HR := Lib.hid hrow
    have HQ := Lib.hid hq
    clear hrow hq
    by_cases hjn : j < n
    · have hjI : (j : Int) < (n : Int) := by omega
      have hj0 : (0 : Int) ≤ (j : Int) := by omega
      have hjb : (j : Int) ≤ 1001 := by have := HN.out; omega
      have HJ := Lib.hid hjn
      have O2 := Lib.hid (of_nat (2 * (j : Int)) (2 * j) (by omega) (by have := HN.out; omega))
      clear hjn hj
      go_wp2_with fail
      refine (O2.out _).mono ?_
      rintro e wa ⟨rfl, hb⟩
      have HR1 := Lib.hid (HR.out.later hb)
      have HQ1 := Lib.hid (HQ.out.trans (hb.mono HQ.out.size))
      clear hb
      go_wp2_with fail
      refine (O1.out _).mono ?_
      rintro e wb ⟨rfl, hb⟩
      have HR2 := Lib.hid (HR1.out.later hb)
      have HQ2 := Lib.hid (HQ1.out.trans (hb.mono HQ1.out.size))
      clear hb HR HQ HR1 HQ1
      obtain ⟨v', w', hr0, hrw, hbw⟩ := push_slot wb w2.heap.size u8 (evL j) HR2.out HQ2.out.size (by rw [evL_len]; have := HN.out; have := HJ.out; omega) (2 * j, 1)
      have hr : (Builtin.append_ #[22, 22] 22 #[u8, .slice (some ⟨wb.heap.size, 0, none⟩) 1 1]).run Try.prog (wb.alloc (.cells #[.int .u64 (lim (2 * j) 0), .int .u64 (lim (2 * j) 1), .int .u64 (lim (2 * j) 2), .int .u64 (lim (2 * j) 3), .int .u64 (lim 1 0), .int .u64 (lim 1 1), .int .u64 (lim 1 2), .int .u64 (lim 1 3)] 31)) = .ok v' w' := hr0
      rw [← evL_succ] at hrw
      have R3 := Lib.hid hrw
      have Q3 := Lib.hid (HQ2.out.trans hbw)
      clear hr0 hrw hbw
      go_wp2_with (at_builtin; refine wpList_append_run rfl (.tmp 26) (.tmp 32) 22 rfl _ _ _ rfl rfl hr ?_)
      clear hr
      go_roundw
      case rel => exact ⟨j + 1, by have := HJ.out; omega, by simp, R3.out, Q3.out⟩
      case measure => have := HJ.out; simp [intOf]; omega
    · have hjI : ¬ (j : Int) < (n : Int) := by omega
      obtain rfl : j = n := by omega
      have hsl := HR.out.slots (evL_wide (by have := HN.out; omega))
      obtain ⟨al, cl, rfl⟩ := HR.out.shape
      have QW := Lib.hid (Q2.out.trans (HQ.out.mono Q2.out.size))
      rw [evL_len] at hsl ⊢
      have RS := Lib.hid hsl
      clear hsl HR HQ Q2 hj
      go_wp2_with fail
      refine (P2.out _).mono ?_
      rintro e wa ⟨rfl, hb⟩
      have RS1 := Lib.hid (RS.out.later hb)
      have Q1 := Lib.hid (QW.out.trans (hb.mono QW.out.size))
      clear hb RS QW P2
      go_wp2_with fail
      refine (P3.out _).mono ?_
      rintro e wb ⟨rfl, hb⟩
      have RS2 := Lib.hid (RS1.out.later hb)
      have Q2 := Lib.hid (Q1.out.trans (hb.mono Q1.out.size))
      clear hb RS1 Q1 P3
      go_wp2_with fail
      refine (OK.out _).mono ?_
      rintro e wc ⟨rfl, hb⟩
      have RS3 := Lib.hid (RS2.out.later hb)
      have Q3 := Lib.hid (Q2.out.trans (hb.mono Q2.out.size))
      clear hb RS2 Q2
      go_wp2_with fail
      refine (OV.out _).mono ?_
      rintro e wd ⟨rfl, hb⟩
      have RS4 := Lib.hid (RS3.out.later hb)
      have Q4 := Lib.hid (Q3.out.trans (hb.mono Q3.out.size))
      clear hb RS3 Q3
      have hc := put_any wd (.slice al j cl) (evL j) RS4.out k v (wide_n k (by have := HK.out; omega)) (wide_n v (by have := HK.out; omega))
      rw [evL_right] at hc
      have hlen := merge_one_len (evL_kept j) k v
      rw [evL_len, evL_lk] at hlen
      have hlook : look (mergeL (evL j) [(k, v)]) k = v := by
        rw [lk_merge (evL_kept j) (by unfold Rise; simp)]
        simp [lk]
      have HLEN := Lib.hid hlen
      have HLOOK := Lib.hid hlook
      have HWM := Lib.hid (mergeL_wide (evL j) [(k, v)] (evL_wide (by have := HN.out; omega)) (fun x hx => by simp at hx; subst hx; exact ⟨wide_n k (by have := HK.out; omega), wide_n v (by have := HK.out; omega)⟩))
      have hm2 : (k : Int).tmod 2 = ((k % 2 : Nat) : Int) := by rw [Int.tmod_eq_emod_of_nonneg (by omega)]; omega
      have hq2 : (k : Int).tdiv 2 = ((k / 2 : Nat) : Int) := by rw [Int.tdiv_eq_ediv_of_nonneg (by omega)]; omega
      obtain ⟨km, hkm⟩ : ∃ km, k % 2 = km := ⟨_, rfl⟩
      obtain ⟨kq, hkq⟩ : ∃ kq, k / 2 = kq := ⟨_, rfl⟩
      rw [hkm] at hm2
      rw [hkq] at hq2
      have HKM := Lib.hid (And.intro hkm hkq)
      have hkqb : (kq : Int) ≤ 1100 := by have := HK.out; omega
      have hjb : (j : Int) ≤ 1001 := by have := HN.out; omega
      have hjl : 998 ≤ (j : Int) := by have := HN.out; omega
      have hvb : (v : Int) ≤ 2 := by have := HK.out; omega
      have hv0' : (0 : Int) ≤ (v : Int) := by omega
      clear hlen hlook hkm hkq
      go_wp2_with fail
      refine hc.mono ?_
      clear hc
      intro e we hd
      have Q5 := Lib.hid (Q4.out.trans (hd.2.mono Q4.out.size))
      have hcase : (km = 0 ∧ kq < j) ∨ (km = 0 ∧ ¬ kq < j) ∨ ¬ km = 0 := by omega
      rcases hcase with hh | hh | hh
      · have h1 : km = 0 := hh.1
        subst h1
        have hkI : (kq : Int) < (j : Int) := by omega
        have hlk : (k % 2 = 0 ∧ k / 2 < j) := by have := HKM.out; omega
        by_cases hv : v = 0
        · subst hv
          have HL2 := Lib.hid (show (mergeL (evL j) [(k, 0)]).length = j - 1 from by have h := HLEN.out; rw [if_pos hlk] at h; simpa using h)
          by_cases hj1 : j ≤ 1000
          · rw [decide_eq_true hj1] at hd
            have hjm : ¬ 1000 < (j : Int) := by omega
            have hjm2 : ¬ 1000 < (j : Int) - 1 := by omega
            obtain ⟨sv, rfl, hrow, _⟩ := hd.good (by rw [HL2.out]; omega)
            have hsl := hrow.slots HWM.out
            obtain ⟨am, cm, rfl⟩ := hrow.shape
            have RM := Lib.hid hsl
            rw [HL2.out] at RM ⊢
            clear hsl hrow hd
            go_wp2_with fail
            refine (OK.out _).mono ?_
            rintro e wf ⟨rfl, hb⟩
            have hg := get_any wf _ (mergeL (evL j) [(k, 0)]) (RM.out.later hb) k (wide_n k (by have := HK.out; omega))
            rw [HLOOK.out] at hg
            have Q6 := Lib.hid (Q5.out.trans (hb.mono Q5.out.size))
            clear hb
            go_wp2_with fail
            refine hg.mono ?_
            clear hg
            rintro e wg ⟨rfl, hb⟩
            unfold wv
            have Q7 := Lib.hid (Q6.out.trans (hb.mono Q6.out.size))
            clear hb
            go_wp2_with fail
            refine (OV.out _).mono ?_
            rintro e wh ⟨rfl, hb⟩
            have Q8 := Lib.hid (Q7.out.trans (hb.mono Q7.out.size))
            clear hb
            go_wp2_with fail
            go_ret
            exact ⟨rfl, Q8.out⟩
          · rw [decide_eq_false hj1] at hd
            obtain ⟨rfl, _⟩ := hd.bad
            clear hd
            have hjm : 1000 < (j : Int) := by omega
            go_wp2_with fail
            go_ret
            exact ⟨rfl, Q5.out⟩
        · have hvp : (0 : Int) < (v : Int) := by omega
          have hvn : ¬ (v : Int) = 0 := by omega
          have HL2 := Lib.hid (show (mergeL (evL j) [(k, v)]).length = j from by have h := HLEN.out; rw [if_pos hlk] at h; simpa [hv] using h)
          by_cases hj1 : j ≤ 1000
          · rw [decide_eq_true hj1] at hd
            have hjm : ¬ 1000 < (j : Int) := by omega
            obtain ⟨sv, rfl, hrow, _⟩ := hd.good (by rw [HL2.out]; omega)
            have hsl := hrow.slots HWM.out
            obtain ⟨am, cm, rfl⟩ := hrow.shape
            have RM := Lib.hid hsl
            rw [HL2.out] at RM ⊢
            clear hsl hrow hd
            go_wp2_with fail
            refine (OK.out _).mono ?_
            rintro e wf ⟨rfl, hb⟩
            have hg := get_any wf _ (mergeL (evL j) [(k, v)]) (RM.out.later hb) k (wide_n k (by have := HK.out; omega))
            rw [HLOOK.out] at hg
            have Q6 := Lib.hid (Q5.out.trans (hb.mono Q5.out.size))
            clear hb
            go_wp2_with fail
            refine hg.mono ?_
            clear hg
            rintro e wg ⟨rfl, hb⟩
            unfold wv
            have Q7 := Lib.hid (Q6.out.trans (hb.mono Q6.out.size))
            clear hb
            go_wp2_with fail
            refine (OV.out _).mono ?_
            rintro e wh ⟨rfl, hb⟩
            have Q8 := Lib.hid (Q7.out.trans (hb.mono Q7.out.size))
            clear hb
            go_wp2_with fail
            go_ret
            exact ⟨rfl, Q8.out⟩
          · rw [decide_eq_false hj1] at hd
            obtain ⟨rfl, _⟩ := hd.bad
            clear hd
            have hjm : 1000 < (j : Int) := by omega
            go_wp2_with fail
            go_ret
            exact ⟨rfl, Q5.out⟩
      · have h1 : km = 0 := hh.1
        subst h1
        have hkI : ¬ (kq : Int) < (j : Int) := by omega
        have hlk : ¬ (k % 2 = 0 ∧ k / 2 < j) := by have := HKM.out; omega
        by_cases hv : v = 0
        · subst hv
          have HL2 := Lib.hid (show (mergeL (evL j) [(k, 0)]).length = j from by have h := HLEN.out; rw [if_neg hlk] at h; simpa using h)
          by_cases hj1 : j ≤ 1000
          · rw [decide_eq_true hj1] at hd
            have hjm : ¬ 1000 < (j : Int) := by omega
            obtain ⟨sv, rfl, hrow, _⟩ := hd.good (by rw [HL2.out]; omega)
            have hsl := hrow.slots HWM.out
            obtain ⟨am, cm, rfl⟩ := hrow.shape
            have RM := Lib.hid hsl
            rw [HL2.out] at RM ⊢
            clear hsl hrow hd
            go_wp2_with fail
            refine (OK.out _).mono ?_
            rintro e wf ⟨rfl, hb⟩
            have hg := get_any wf _ (mergeL (evL j) [(k, 0)]) (RM.out.later hb) k (wide_n k (by have := HK.out; omega))
            rw [HLOOK.out] at hg
            have Q6 := Lib.hid (Q5.out.trans (hb.mono Q5.out.size))
            clear hb
            go_wp2_with fail
            refine hg.mono ?_
            clear hg
            rintro e wg ⟨rfl, hb⟩
            unfold wv
            have Q7 := Lib.hid (Q6.out.trans (hb.mono Q6.out.size))
            clear hb
            go_wp2_with fail
            refine (OV.out _).mono ?_
            rintro e wh ⟨rfl, hb⟩
            have Q8 := Lib.hid (Q7.out.trans (hb.mono Q7.out.size))
            clear hb
            go_wp2_with fail
            go_ret
            exact ⟨rfl, Q8.out⟩
          · rw [decide_eq_false hj1] at hd
            obtain ⟨rfl, _⟩ := hd.bad
            clear hd
            have hjm : 1000 < (j : Int) := by omega
            go_wp2_with fail
            go_ret
            exact ⟨rfl, Q5.out⟩
        · have hvp : (0 : Int) < (v : Int) := by omega
          have hvn : ¬ (v : Int) = 0 := by omega
          have HL2 := Lib.hid (show (mergeL (evL j) [(k, v)]).length = j + 1 from by have h := HLEN.out; rw [if_neg hlk] at h; simpa [hv] using h)
          by_cases hj1 : j ≤ 1000
          · rw [decide_eq_true hj1] at hd
            have hjm : ¬ 1000 < (j : Int) := by omega
            by_cases hj2 : j + 1 ≤ 1000
            · have hjm2 : ¬ 1000 < (j : Int) + 1 := by omega
              obtain ⟨sv, rfl, hrow, _⟩ := hd.good (by rw [HL2.out]; omega)
              have hsl := hrow.slots HWM.out
              obtain ⟨am, cm, rfl⟩ := hrow.shape
              have RM := Lib.hid hsl
              rw [HL2.out] at RM ⊢
              clear hsl hrow hd
              go_wp2_with fail
              refine (OK.out _).mono ?_
              rintro e wf ⟨rfl, hb⟩
              have hg := get_any wf _ (mergeL (evL j) [(k, v)]) (RM.out.later hb) k (wide_n k (by have := HK.out; omega))
              rw [HLOOK.out] at hg
              have Q6 := Lib.hid (Q5.out.trans (hb.mono Q5.out.size))
              clear hb
              go_wp2_with fail
              refine hg.mono ?_
              clear hg
              rintro e wg ⟨rfl, hb⟩
              unfold wv
              have Q7 := Lib.hid (Q6.out.trans (hb.mono Q6.out.size))
              clear hb
              go_wp2_with fail
              refine (OV.out _).mono ?_
              rintro e wh ⟨rfl, hb⟩
              have Q8 := Lib.hid (Q7.out.trans (hb.mono Q7.out.size))
              clear hb
              go_wp2_with fail
              go_ret
              exact ⟨rfl, Q8.out⟩
            · have hjm2 : 1000 < (j : Int) + 1 := by omega
              obtain ⟨rfl, _⟩ : e = .returned (.tuple #[.slice none 0 0, .int .i64 2]) ∧ True := by
                rcases hd.1 with ⟨_, h, _⟩ | ⟨_, _, h⟩ | ⟨h, _⟩
                · rw [HL2.out] at h; omega
                · exact ⟨h, trivial⟩
                · cases h
              clear hd
              go_wp2_with fail
              go_ret
              exact ⟨rfl, Q5.out⟩
          · rw [decide_eq_false hj1] at hd
            obtain ⟨rfl, _⟩ := hd.bad
            clear hd
            have hjm : 1000 < (j : Int) := by omega
            go_wp2_with fail
            go_ret
            exact ⟨rfl, Q5.out⟩
      · have hkI : ¬ (km : Int) = 0 := by omega
        have hlk : ¬ (k % 2 = 0 ∧ k / 2 < j) := by have := HKM.out; omega
        by_cases hv : v = 0
        · subst hv
          have HL2 := Lib.hid (show (mergeL (evL j) [(k, 0)]).length = j from by have h := HLEN.out; rw [if_neg hlk] at h; simpa using h)
          by_cases hj1 : j ≤ 1000
          · rw [decide_eq_true hj1] at hd
            have hjm : ¬ 1000 < (j : Int) := by omega
            obtain ⟨sv, rfl, hrow, _⟩ := hd.good (by rw [HL2.out]; omega)
            have hsl := hrow.slots HWM.out
            obtain ⟨am, cm, rfl⟩ := hrow.shape
            have RM := Lib.hid hsl
            rw [HL2.out] at RM ⊢
            clear hsl hrow hd
            go_wp2_with fail
            refine (OK.out _).mono ?_
            rintro e wf ⟨rfl, hb⟩
            have hg := get_any wf _ (mergeL (evL j) [(k, 0)]) (RM.out.later hb) k (wide_n k (by have := HK.out; omega))
            rw [HLOOK.out] at hg
            have Q6 := Lib.hid (Q5.out.trans (hb.mono Q5.out.size))
            clear hb
            go_wp2_with fail
            refine hg.mono ?_
            clear hg
            rintro e wg ⟨rfl, hb⟩
            unfold wv
            have Q7 := Lib.hid (Q6.out.trans (hb.mono Q6.out.size))
            clear hb
            go_wp2_with fail
            refine (OV.out _).mono ?_
            rintro e wh ⟨rfl, hb⟩
            have Q8 := Lib.hid (Q7.out.trans (hb.mono Q7.out.size))
            clear hb
            go_wp2_with fail
            go_ret
            exact ⟨rfl, Q8.out⟩
          · rw [decide_eq_false hj1] at hd
            obtain ⟨rfl, _⟩ := hd.bad
            clear hd
            have hjm : 1000 < (j : Int) := by omega
            go_wp2_with fail
            go_ret
            exact ⟨rfl, Q5.out⟩
        · have hvp : (0 : Int) < (v : Int) := by omega
          have hvn : ¬ (v : Int) = 0 := by omega
          have HL2 := Lib.hid (show (mergeL (evL j) [(k, v)]).length = j + 1 from by have h := HLEN.out; rw [if_neg hlk] at h; simpa [hv] using h)
          by_cases hj1 : j ≤ 1000
          · rw [decide_eq_true hj1] at hd
            have hjm : ¬ 1000 < (j : Int) := by omega
            by_cases hj2 : j + 1 ≤ 1000
            · have hjm2 : ¬ 1000 < (j : Int) + 1 := by omega
              obtain ⟨sv, rfl, hrow, _⟩ := hd.good (by rw [HL2.out]; omega)
              have hsl := hrow.slots HWM.out
              obtain ⟨am, cm, rfl⟩ := hrow.shape
              have RM := Lib.hid hsl
              rw [HL2.out] at RM ⊢
              clear hsl hrow hd
              go_wp2_with fail
              refine (OK.out _).mono ?_
              rintro e wf ⟨rfl, hb⟩
              have hg := get_any wf _ (mergeL (evL j) [(k, v)]) (RM.out.later hb) k (wide_n k (by have := HK.out; omega))
              rw [HLOOK.out] at hg
              have Q6 := Lib.hid (Q5.out.trans (hb.mono Q5.out.size))
              clear hb
              go_wp2_with fail
              refine hg.mono ?_
              clear hg
              rintro e wg ⟨rfl, hb⟩
              unfold wv
              have Q7 := Lib.hid (Q6.out.trans (hb.mono Q6.out.size))
              clear hb
              go_wp2_with fail
              refine (OV.out _).mono ?_
              rintro e wh ⟨rfl, hb⟩
              have Q8 := Lib.hid (Q7.out.trans (hb.mono Q7.out.size))
              clear hb
              go_wp2_with fail
              go_ret
              exact ⟨rfl, Q8.out⟩
            · have hjm2 : 1000 < (j : Int) + 1 := by omega
              obtain ⟨rfl, _⟩ : e = .returned (.tuple #[.slice none 0 0, .int .i64 2]) ∧ True := by
                rcases hd.1 with ⟨_, h, _⟩ | ⟨_, _, h⟩ | ⟨h, _⟩
                · rw [HL2.out] at h; omega
                · exact ⟨h, trivial⟩
                · cases h
              clear hd
              go_wp2_with fail
              go_ret
              exact ⟨rfl, Q5.out⟩
          · rw [decide_eq_false hj1] at hd
            obtain ⟨rfl, _⟩ := hd.bad
            clear hd
            have hjm : 1000 < (j : Int) := by omega
            go_wp2_with fail
            go_ret
            exact ⟨rfl, Q5.out⟩
end Go.Proofs.Ytcannohmbaaceaa
