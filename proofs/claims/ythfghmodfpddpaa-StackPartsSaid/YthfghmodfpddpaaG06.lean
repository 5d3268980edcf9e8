/- Part. -/
import Derived.Test.YthfghmodfpddpaaG05
import Derived.Test.YthfghmodfpddpaaRows
import Derived.ProofKit
import Derived.LaidMore
import Derived.OpenShut
import Derived.Stop.Joined
import Derived.ChangeSame
import Derived.Below
import Derived.Laws.IdiomArrays
import Derived.Test.YthfghmodfpddpaaG02
set_option maxRecDepth 100000
set_option maxHeartbeats 16000000
namespace Go.Proofs.Ythfghmodfpddpaa
section
open Go Go.RowKit
attribute [local go_sem] Oper.semAt_some Grows wide_fn eq4
theorem of_7 : Ret Try.prog 19 #[.int .i64 7] (.agg #[.int .u64 7, .int .u64 0, .int .u64 0, .int .u64 0]) := (refOf_ret 7 (by unfold I64; omega)).of_eq rfl (wv_of ⟨by decide, by decide, by decide, by decide⟩)
theorem stkW_deep (p : Int) (h0 : 0 ≤ p) (h3 : p < 3) : (stkW [] true (1 + p)).length = 1024 - p.toNat := by
 have e : pickN (1 + p) 4 = 1 + p := by unfold pickN; rw [if_neg (by omega)]; omega
 unfold stkW
 rw [if_pos rfl, moreW_length, e]
 simp [rawW]
 omega
theorem take_front (a b : List Nat) : (a ++ b).take a.length = a := by simp
theorem stackDeep_any (W : World) (less : Int) (hless : I64 less) (n : Int) (hn : I64 n) : Calls Try.prog 6 #[.int .i64 less, .int .i64 n] W fun e w' => e = .returned (.bool true) ∧ Below W.heap.size W w' := by
 have hmx : Try.prog.follows .mixedOrders = true := by kernel_rfl
 have O7 := hid of_7
 have P3 := hid (pick_ret less hless 3 (by decide) (by decide))
 have P4 := hid (pick_ret n hn 4 (by decide) (by decide))
 have P16 := hid (pick_ret n hn 16 (by decide) (by decide))
 have r3 := pickN_range less 3 (by decide)
 have r4 := pickN_range n 4 (by decide)
 have r16 := pickN_range n 16 (by decide)
 generalize pickN less 3 = p3 at *
 generalize pickN n 4 = p4 at *
 generalize pickN n 16 = p16 at *
 obtain ⟨k, rfl⟩ : ∃ k : Nat, p4 = (k : Int) := ⟨p4.toNat, by omega⟩
 obtain ⟨d, rfl⟩ : ∃ d : Nat, p16 = (d : Int) := ⟨p16.toNat, by omega⟩
 have HD := hid (stkW_deep p3 r3.1 r3.2)
 have HI := hid (show I64 (1 + p3) by unfold I64; omega)
 have HR := hid (And.intro r3 (And.intro r4 r16))
 have k0 : (0 : Int) ≤ (k : Int) := by omega
 have k4 : (k : Int) < 4 := by omega
 have d0 : (0 : Int) ≤ (d : Int) := by omega
 have d16 : (d : Int) < 16 := by omega
 have t0 : 0 ≤ p3 := r3.1
 have t3 : p3 < 3 := r3.2
 clear hless hn r3 r4 r16
 go_enter Try.func6, Try.ntmps6
 go_wp2_with fail
 refine (awake_any _).mono ?_
 rintro _ w1 ⟨rfl, q⟩
 have QQ := hid q
 clear q
 go_wp2_with fail
 refine (P3.out _).mono ?_
 rintro _ w2 ⟨rfl, q2⟩
 replace QQ := hid (QQ.out.trans (q2.mono QQ.out.size))
 clear q2
 go_wp2_with fail
 refine (stack_any _ _ [] true (1 + p3) (NumsAt.nil _) HI.out).mono ?_
 rintro _ w3 ⟨v, rfl, h, hall, q⟩
 replace QQ := hid (QQ.out.trans (q.mono QQ.out.size))
 clear q
 have h' := h.keys hall
 have HALL := hid hall
 generalize stkW [] true (1 + p3) = s at *
 clear h hall
 obtain ⟨sa, sc, rfl, _, _⟩ := h'.shape
 obtain ⟨M, hM⟩ : ∃ M, s.length = M := ⟨_, rfl⟩
 have HM := hid hM
 rw [hM] at h' HD ⊢
 clear hM
 have HS := hid h'
 clear h'
 have m0 : (1022 : Int) ≤ (M : Int) := by have := HD.out; omega
 have m1 : (M : Int) ≤ 1024 := by have := HD.out; omega
 go_wp2_with fail
 refine (O7.out _).mono ?_
 rintro _ w4 ⟨rfl, q4⟩
 replace HS := hid (HS.out.later q4)
 replace QQ := hid (QQ.out.trans (q4.mono QQ.out.size))
 clear q4
 have Z0 := Has.new w4 25 #[.int .u64 0, .int .u64 0, .int .u64 0, .int .u64 0]
 have z0 := Z0.cell 0 _ rfl
 have z1 := Z0.cell 1 _ rfl
 have z2 := Z0.cell 2 _ rfl
 have z3 := Z0.cell 3 _ rfl
 have y0 := Z0.frozen 0
 have y1 := Z0.frozen 1
 have y2 := Z0.frozen 2
 have y3 := Z0.frozen 3
 clear Z0
 have q5 := newA w4 (.cells #[.int .u64 7, .int .u64 0, .int .u64 0, .int .u64 0] 25)
 have HB := hid (Has.new w4 25 #[.int .u64 7, .int .u64 0, .int .u64 0, .int .u64 0])
 replace HS := hid (HS.out.later q5)
 replace QQ := hid (QQ.out.trans (q5.mono QQ.out.size))
 clear q5
 go_wp2_with fail
 refine (P4.out _).mono ?_
 rintro _ w6 ⟨rfl, q6⟩
 replace HS := hid (HS.out.later q6)
 replace HB := hid (HB.out.later q6)
 replace QQ := hid (QQ.out.trans (q6.mono QQ.out.size))
 clear q6
 clear z0 z1 z2 z3 y0 y1 y2 y3
 obtain ⟨bx, hbx⟩ : ∃ bx, w4.heap.size = bx := ⟨_, rfl⟩
 rw [hbx] at HB ⊢
 clear hbx
 go_wp2_with fail
 go_loopw [10, 11] (fun ov i wr => ∃ j : Nat, j ≤ k ∧ i = .int .i64 (j : Int) ∧ WdRow wr w6.heap.size ov (List.replicate j 7) ∧ Below w6.heap.size w6 wr) (fun _ i _ => k - (intOf i).toNat)
 case atStart => exact ⟨0, by omega, rfl, WdRow.nil _ _, Below.refl _ _⟩
 case round =>
  obtain ⟨j, hj, rfl, hrow, hq⟩ := hrel
  obtain ⟨ov, hov⟩ : ∃ ov, ov = u10 := ⟨_, rfl⟩
  subst hov
  have HQ := hid hq
  have HROW := hid hrow
  clear hrow hq
  by_cases hlt : j < k
  ·have hltI : (j : Int) < (k : Int) := by omega
   have j0 : (0 : Int) ≤ (j : Int) := by omega
   have hb := HB.out.later HQ.out
   have c0 := hb.cell 0 _ rfl
   have c1 := hb.cell 1 _ rfl
   have c2 := hb.cell 2 _ rfl
   have c3 := hb.cell 3 _ rfl
   obtain ⟨v', w', happ, hrow', hbel⟩ := push_word wr w6.heap.size ov _ HROW.out HQ.out.size (by simp; omega) 7 (by unfold W256; omega)
   rw [show lim 7 0 = 7 from rfl, show lim 7 1 = 0 from rfl, show lim 7 2 = 0 from rfl, show lim 7 3 = 0 from rfl] at happ
   have R2 := hid hrow'
   have Q2 := hid (HQ.out.trans hbel)
   have HK := hid hlt
   clear hlt hj hrow' hbel hb
   go_wp2_with (at_builtin; refine wpList_append_runW rfl (.tmp 31) (.tmp 33) 27 rfl _ _ _ rfl rfl happ ?_)
   go_roundw
   case rel => exact ⟨j + 1, by have := HK.out; omega, by simp, by rw [List.replicate_succ']; exact R2.out, Q2.out⟩
   case measure => have := HK.out; simp [intOf]; omega
  ·obtain rfl : j = k := by omega
   have hkk : ¬ (j : Int) < (j : Int) := by omega
   have hl' := HROW.out.keys (fun x hx => by rw [List.mem_replicate] at hx; rw [hx.2]; unfold W256; omega)
   clear hj
   have q9 := HQ.out
   replace HS := hid (HS.out.later q9)
   replace HB := hid (HB.out.later q9)
   replace QQ := hid (QQ.out.trans (q9.mono QQ.out.size))
   clear q9 HQ HROW
   obtain ⟨la, lc, rfl, _, _⟩ := hl'.shape
   rw [List.length_replicate] at hl' ⊢
   have HL := hid hl'
   clear hl'
   go_wp2_with fail
   refine (push_any _ _ _ s (List.replicate j 7) HS.out HL.out (by rw [HM.out]; omega) (by rw [List.length_replicate]; omega)).mono ?_
   rintro _ w7 ⟨v, rfl, h, q⟩
   replace HS := hid (HS.out.later q)
   replace HB := hid (HB.out.later q)
   replace HL := hid (HL.out.later q)
   replace QQ := hid (QQ.out.trans (q.mono QQ.out.size))
   clear q
   obtain ⟨ta, tc, rfl, _, _⟩ := h.shape
   have HT := hid h
   clear h
   go_wp2_with fail
   refine (P16.out _).mono ?_
   rintro _ w8 ⟨rfl, q8⟩
   replace HS := hid (HS.out.later q8)
   replace HB := hid (HB.out.later q8)
   replace HL := hid (HL.out.later q8)
   replace HT := hid (HT.out.later q8)
   replace QQ := hid (QQ.out.trans (q8.mono QQ.out.size))
   clear q8
   go_wp2_with fail
   refine (dup_any _ _ s (1 + (d : Int)) HS.out (by rw [HM.out]; omega)).mono ?_
   rintro _ w9 ⟨v, rfl, h, q⟩
   replace HS := hid (HS.out.later q)
   replace HB := hid (HB.out.later q)
   replace HL := hid (HL.out.later q)
   replace HT := hid (HT.out.later q)
   replace QQ := hid (QQ.out.trans (q.mono QQ.out.size))
   clear q
   obtain ⟨ua, uc, rfl, _, _⟩ := h.shape
   have HU := hid h
   clear h
   have ha : askN s.length (1 + (d : Int)) 1 0 = 0 := by unfold askN; rw [HM.out, if_neg (by omega), if_neg (by omega)]
   have hde : dupE s (1 + (d : Int)) = pushE s [topW s (1 + (d : Int))] := by unfold dupE; rw [if_pos ha]
   have hdl : dupL s (1 + (d : Int)) = pushL s [topW s (1 + (d : Int))] := by unfold dupL; rw [if_pos ha]
   have htop : s[M - 1 - d]? = some (topW s (1 + (d : Int))) := by
    obtain ⟨i, hi, _, hx⟩ := top_at (s := s) (k := 1 + (d : Int)) (by omega) (by rw [HM.out]; omega)
    rw [HM.out] at hi
    rw [show M - 1 - d = i by omega]
    exact hx
   have HTOP := hid htop
   have hp1 : pushE s (List.replicate j 7) = if 1024 < M + j then 41 else 0 := by unfold pushE; rw [HM.out, List.length_replicate, if_neg (by omega)]
   have hp2 : pushE s [topW s (1 + (d : Int))] = if 1024 < M + 1 then 41 else 0 := by unfold pushE; rw [HM.out, List.length_singleton, if_neg (by omega)]
   rw [hde, hp2, hp1]
   rw [hdl] at HU ⊢
   have HP1 := hid hp1
   have HP2 := hid hp2
   generalize topW s (1 + (d : Int)) = x at *
   clear ha hde hdl htop hp1 hp2
   have mj : (M : Int) + (j : Int) ≤ 1028 := by omega
   by_cases h1 : 1024 < M + j
   ·have h2 : ¬ M + 1 ≤ 1024 ∨ M + 1 ≤ 1024 := by omega
    rcases h2 with h2 | h2
    ·have h1I : ¬ (M : Int) + (j : Int) ≤ 1024 := by omega
     have h2I : ¬ (M : Int) < 1024 := by omega
     have hT : pushL s (List.replicate j 7) = s := by unfold pushL; rw [HP1.out, if_pos h1, if_neg (by decide)]
     rw [if_pos h1, hT, HM.out]
     rw [hT, HM.out] at HT
     clear hT
     have hU : pushL s [x] = s := by unfold pushL; rw [HP2.out, if_pos (show 1024 < M + 1 by omega), if_neg (by decide)]
     rw [if_pos (show 1024 < M + 1 by omega), hU, HM.out]
     rw [hU, HM.out] at HU
     clear hU
     clear h1 h2
     go_wp2_with fail
     refine (same_words _ _ _ s s HT.out HS.out).mono ?_
     rintro _ w10 ⟨rfl, q⟩
     replace HS := hid (HS.out.later q)
     replace HB := hid (HB.out.later q)
     replace HL := hid (HL.out.later q)
     replace HT := hid (HT.out.later q)
     replace HU := hid (HU.out.later q)
     replace QQ := hid (QQ.out.trans (q.mono QQ.out.size))
     clear q
     rw [show decide (s = s) = true by simp]
     go_wp2_with fail
     refine wp_region_quietL (C := Grows w10) hmx (by kernel_rfl) (grows_refl w10) ?_
     repeat (go_big_quiet_step (first | (with_reducible exact Ret.at P16.out _)))
     refine wpQuiet_nil ?_
     rintro _ ⟨z, rfl⟩
     have QE := hid (QQ.out.trans (z.below.mono QQ.out.size))
     go_wp2_with fail
     go_ret
     exact ⟨rfl, QE.out⟩
    ·have h1I : ¬ (M : Int) + (j : Int) ≤ 1024 := by omega
     have h2I : (M : Int) < 1024 := by omega
     have hT : pushL s (List.replicate j 7) = s := by unfold pushL; rw [HP1.out, if_pos h1, if_neg (by decide)]
     rw [if_pos h1, hT, HM.out]
     rw [hT, HM.out] at HT
     clear hT
     have hU : pushL s [x] = s ++ [x] := by unfold pushL; rw [HP2.out, if_neg (show ¬ 1024 < M + 1 by omega), if_pos rfl]
     rw [if_neg (show ¬ 1024 < M + 1 by omega), hU, List.length_append, HM.out, List.length_singleton]
     rw [hU, List.length_append, HM.out, List.length_singleton] at HU
     have HUX := hid (show (s ++ [x])[M]? = some x by rw [List.getElem?_append_right (by have := HM.out; omega), HM.out, Nat.sub_self]; rfl)
     have hcast2 : ((M + 1 : Nat) : Int) = (M : Int) + 1 := by omega
     clear hU
     clear h1 h2
     go_wp2_with fail
     refine (same_words _ _ _ s s HT.out HS.out).mono ?_
     rintro _ w10 ⟨rfl, q⟩
     replace HS := hid (HS.out.later q)
     replace HB := hid (HB.out.later q)
     replace HL := hid (HL.out.later q)
     replace HT := hid (HT.out.later q)
     replace HU := hid (HU.out.later q)
     replace QQ := hid (QQ.out.trans (q.mono QQ.out.size))
     clear q
     rw [show decide (s = s) = true by simp]
     obtain ⟨i, hi⟩ : ∃ i : Nat, M - 1 - d = i := ⟨_, rfl⟩
     have HX := hid HTOP.out
     rw [hi] at HX
     have e1 : (M : Int) - 1 - (d : Int) = (i : Int) := by omega
     have i0 : (0 : Int) ≤ (i : Int) := by omega
     have i1 : (i : Int) < (M : Int) := by omega
     have M1 : (M : Int) < (M : Int) + 1 := by omega
     have M0 : (0 : Int) ≤ (M : Int) := by omega
     clear hi
     obtain ⟨b1, rfl, _⟩ := HU.out.at HUX.out
     obtain ⟨b2, rfl, _⟩ := HS.out.at HX.out
     have hC := fun z : Ext w10 => (HU.out.later z.below).at4 HUX.out
     have hD := fun z : Ext w10 => (HS.out.later z.below).at4 HX.out
     have c0 := fun z : Ext w10 => (hC z).1
     have c1 := fun z : Ext w10 => (hC z).2.1
     have c2 := fun z : Ext w10 => (hC z).2.2.1
     have c3 := fun z : Ext w10 => (hC z).2.2.2
     have d0 := fun z : Ext w10 => (hD z).1
     have d1 := fun z : Ext w10 => (hD z).2.1
     have d2 := fun z : Ext w10 => (hD z).2.2.1
     have d3 := fun z : Ext w10 => (hD z).2.2.2
     clear hC hD
     go_wp2_with fail
     refine wp_region_quietL (C := Grows w10) hmx (by kernel_rfl) (grows_refl w10) ?_
     repeat (go_big_quiet_step (first | (with_reducible exact Ret.at P16.out _)))
     refine wpQuiet_nil ?_
     rintro _ ⟨z, rfl⟩
     have QE := hid (QQ.out.trans (z.below.mono QQ.out.size))
     clear c0 c1 c2 c3 d0 d1 d2 d3
     go_wp2_with fail
     go_ret
     exact ⟨rfl, QE.out⟩
   ·have h2 : ¬ M + 1 ≤ 1024 ∨ M + 1 ≤ 1024 := by omega
    rcases h2 with h2 | h2
    ·have h1I : (M : Int) + (j : Int) ≤ 1024 := by omega
     have h2I : ¬ (M : Int) < 1024 := by omega
     have hT : pushL s (List.replicate j 7) = s ++ List.replicate j 7 := by unfold pushL; rw [HP1.out, if_neg h1, if_pos rfl]
     have hTL : (pushL s (List.replicate j 7)).length = M + j := by rw [hT, List.length_append, HM.out, List.length_replicate]
     rw [if_neg h1, hTL]
     rw [hTL, hT] at HT
     have HTT := hid (HT.out.take M (by omega))
     have htk : List.take M (s ++ List.replicate j 7) = s := by rw [← HM.out]; exact take_front _ _
     rw [htk] at HTT
     have ht0 : (M : Int) ≤ ((M + j : Nat) : Int) := by omega
     have htc : M ≤ tc := by have := HT.out.shape; obtain ⟨_, _, e, h, _⟩ := this; injection e with _ e1 e2; rw [List.length_append, HM.out, List.length_replicate] at h; omega
     have hcast : ((M + j : Nat) : Int) = (M : Int) + (j : Int) := by omega
     clear hT hTL
     have hU : pushL s [x] = s := by unfold pushL; rw [HP2.out, if_pos (show 1024 < M + 1 by omega), if_neg (by decide)]
     rw [if_pos (show 1024 < M + 1 by omega), hU, HM.out]
     rw [hU, HM.out] at HU
     clear hU
     clear h1 h2
     go_wp2_with fail
     refine (same_words _ _ _ s s HTT.out HS.out).mono ?_
     rintro _ w10 ⟨rfl, q⟩
     replace HS := hid (HS.out.later q)
     replace HB := hid (HB.out.later q)
     replace HL := hid (HL.out.later q)
     replace HT := hid (HT.out.later q)
     replace HU := hid (HU.out.later q)
     replace HTT := hid (HTT.out.later q)
     replace QQ := hid (QQ.out.trans (q.mono QQ.out.size))
     clear q
     rw [show decide (s = s) = true by simp]
     go_wp2_with fail
     refine wp_region_quietL (C := Grows w10) hmx (by kernel_rfl) (grows_refl w10) ?_
     repeat (go_big_quiet_step (first | (with_reducible exact Ret.at P16.out _)))
     refine wpQuiet_nil ?_
     rintro _ ⟨z, rfl⟩
     have QE := hid (QQ.out.trans (z.below.mono QQ.out.size))
     go_wp2_with fail
     go_ret
     exact ⟨rfl, QE.out⟩
    ·have h1I : (M : Int) + (j : Int) ≤ 1024 := by omega
     have h2I : (M : Int) < 1024 := by omega
     have hT : pushL s (List.replicate j 7) = s ++ List.replicate j 7 := by unfold pushL; rw [HP1.out, if_neg h1, if_pos rfl]
     have hTL : (pushL s (List.replicate j 7)).length = M + j := by rw [hT, List.length_append, HM.out, List.length_replicate]
     rw [if_neg h1, hTL]
     rw [hTL, hT] at HT
     have HTT := hid (HT.out.take M (by omega))
     have htk : List.take M (s ++ List.replicate j 7) = s := by rw [← HM.out]; exact take_front _ _
     rw [htk] at HTT
     have ht0 : (M : Int) ≤ ((M + j : Nat) : Int) := by omega
     have htc : M ≤ tc := by have := HT.out.shape; obtain ⟨_, _, e, h, _⟩ := this; injection e with _ e1 e2; rw [List.length_append, HM.out, List.length_replicate] at h; omega
     have hcast : ((M + j : Nat) : Int) = (M : Int) + (j : Int) := by omega
     clear hT hTL
     have hU : pushL s [x] = s ++ [x] := by unfold pushL; rw [HP2.out, if_neg (show ¬ 1024 < M + 1 by omega), if_pos rfl]
     rw [if_neg (show ¬ 1024 < M + 1 by omega), hU, List.length_append, HM.out, List.length_singleton]
     rw [hU, List.length_append, HM.out, List.length_singleton] at HU
     have HUX := hid (show (s ++ [x])[M]? = some x by rw [List.getElem?_append_right (by have := HM.out; omega), HM.out, Nat.sub_self]; rfl)
     have hcast2 : ((M + 1 : Nat) : Int) = (M : Int) + 1 := by omega
     clear hU
     clear h1 h2
     go_wp2_with fail
     refine (same_words _ _ _ s s HTT.out HS.out).mono ?_
     rintro _ w10 ⟨rfl, q⟩
     replace HS := hid (HS.out.later q)
     replace HB := hid (HB.out.later q)
     replace HL := hid (HL.out.later q)
     replace HT := hid (HT.out.later q)
     replace HU := hid (HU.out.later q)
     replace HTT := hid (HTT.out.later q)
     replace QQ := hid (QQ.out.trans (q.mono QQ.out.size))
     clear q
     rw [show decide (s = s) = true by simp]
     obtain ⟨i, hi⟩ : ∃ i : Nat, M - 1 - d = i := ⟨_, rfl⟩
     have HX := hid HTOP.out
     rw [hi] at HX
     have e1 : (M : Int) - 1 - (d : Int) = (i : Int) := by omega
     have i0 : (0 : Int) ≤ (i : Int) := by omega
     have i1 : (i : Int) < (M : Int) := by omega
     have M1 : (M : Int) < (M : Int) + 1 := by omega
     have M0 : (0 : Int) ≤ (M : Int) := by omega
     clear hi
     obtain ⟨b1, rfl, _⟩ := HU.out.at HUX.out
     obtain ⟨b2, rfl, _⟩ := HS.out.at HX.out
     have hC := fun z : Ext w10 => (HU.out.later z.below).at4 HUX.out
     have hD := fun z : Ext w10 => (HS.out.later z.below).at4 HX.out
     have c0 := fun z : Ext w10 => (hC z).1
     have c1 := fun z : Ext w10 => (hC z).2.1
     have c2 := fun z : Ext w10 => (hC z).2.2.1
     have c3 := fun z : Ext w10 => (hC z).2.2.2
     have d0 := fun z : Ext w10 => (hD z).1
     have d1 := fun z : Ext w10 => (hD z).2.1
     have d2 := fun z : Ext w10 => (hD z).2.2.1
     have d3 := fun z : Ext w10 => (hD z).2.2.2
     clear hC hD
     go_wp2_with fail
     refine wp_region_quietL (C := Grows w10) hmx (by kernel_rfl) (grows_refl w10) ?_
     repeat (go_big_quiet_step (first | (with_reducible exact Ret.at P16.out _)))
     refine wpQuiet_nil ?_
     rintro _ ⟨z, rfl⟩
     have QE := hid (QQ.out.trans (z.below.mono QQ.out.size))
     clear c0 c1 c2 c3 d0 d1 d2 d3
     go_wp2_with fail
     go_ret
     exact ⟨rfl, QE.out⟩
end
section
open Go Go.ChangeShapes Go.WideShapes Go.ChangeAt Go.RowKit
theorem ownNone : ownKnob Try.prog.godebug = none := by kernel_rfl
theorem cellsU64 : Try.prog.cellsOf 23 = 1 := by kernel_rfl
theorem cellsWord : Try.prog.cellsOf 25 = 4 := by kernel_rfl
theorem list4 {α : Type} (l : List α) (h : (⟨l⟩ : Array α).size = 4) : ∃ a b c d, l = [a, b, c, d] := by
 match l, h with
 | [a, b, c, d], _ => exact ⟨a, b, c, d, rfl⟩
theorem u64_of_wf {x : Int} (h : (Lit.int .u64 x).wf = true) : U64 x := by
 have := bounds_u64 h
 unfold U64; omega
theorem word_of (x0 x1 x2 x3 : Int) (h0 : U64 x0) (h1 : U64 x1) (h2 : U64 x2) (h3 : U64 x3) : ∃ n, W256 n ∧ wv n = .agg #[.int .u64 x0, .int .u64 x1, .int .u64 x2, .int .u64 x3] := by
 obtain ⟨z, z0, z1, z2, z3⟩ : ∃ z : Nat → Int, z 0 = x0 ∧ z 1 = x1 ∧ z 2 = x2 ∧ z 3 = x3 := ⟨fun k => if k = 0 then x0 else if k = 1 then x1 else if k = 2 then x2 else x3, rfl, rfl, rfl, rfl⟩
 subst z0 z1 z2 z3
 obtain ⟨g0, g1⟩ := num_lt z h0 h1 h2 h3
 have en : num z = ((num z).toNat : Int) := (Int.toNat_of_nonneg g0).symm
 have e := lim_num z (num z).toNat h0 h1 h2 h3 en
 refine ⟨_, ?_, wv_of e⟩
 unfold W256
 rw [en] at g1
 exact Int.ofNat_lt.1 g1
theorem open_word {H : Type} {enc : TypeId × Value → H} {W : World} {base b : Nat} {sp : Nat → Bool} {held : Bool} {v : Value} {d : DataW H} {ps : List MemPlace}
  (hval : Value.okWide Try.prog W .any base 25 v) (hd : DataW.Trod enc Try.prog W b sp held 25 v d ps) :
  ∃ n, W256 n ∧ v = wv n ∧ ps = [] ∧ ∀ (W' : World) (b' : Nat) (sp' : Nat → Bool) (held' : Bool), DataW.Trod enc Try.prog W' b' sp' held' 25 (wv n) d [] := by
 obtain ⟨cs, rfl, hsz, _⟩ : ∃ cs, v = .agg cs ∧ cs.size = Try.prog.cellsOf 25 ∧ Row.okWide Try.prog W .any base 25 cs := by
  simpa [Value.okWide, Try.underlying25] using hval
 rw [cellsWord] at hsz
 obtain ⟨l⟩ := cs
 obtain ⟨c0, c1, c2, c3, rfl⟩ := list4 l hsz
 obtain ⟨fuel, hf⟩ := hd
 obtain ⟨y0, y1, y2, y3, m, hx, hy0, hy1, hy2, hy3⟩ := trod_array4 Try.underlying25 cellsU64 hf
 obtain ⟨x0, e0, rfl, w0⟩ := DataW.trod_int Try.underlying23 hy0
 obtain ⟨x1, e1, rfl, w1⟩ := DataW.trod_int Try.underlying23 hy1
 obtain ⟨x2, e2, rfl, w2⟩ := DataW.trod_int Try.underlying23 hy2
 obtain ⟨x3, e3, rfl, w3⟩ := DataW.trod_int Try.underlying23 hy3
 simp at e0 e1 e2 e3
 subst e0 e1 e2 e3
 simp only [Prod.mk.injEq] at hx
 obtain ⟨rfl, rfl⟩ := hx
 obtain ⟨n, hn, hv⟩ := word_of x0 x1 x2 x3 (u64_of_wf w0) (u64_of_wf w1) (u64_of_wf w2) (u64_of_wf w3)
 refine ⟨n, hn, hv.symm, rfl, fun W' b' sp' held' => ?_⟩
 rw [hv]
 exact ⟨2, by simp [DataW.trod, Value.cells, Try.underlying25, Try.underlying23, cellsWord, cellsU64, w0, w1, w2, w3, show List.range 4 = [0, 1, 2, 3] from rfl]⟩
theorem i64_of_wf {x : Int} (h : (Lit.int .i64 x).wf = true) : I64 x := by
 have := bounds_i64 h
 unfold I64; omega
end
section
open Go Go.RowKit
attribute [local go_sem] Oper.semAt_some Grows wide_fn eq4
theorem stackTells_any (W : World) (rv : Value) (zs : List Int) (hz : NumsAt W rv zs) (great : Bool) (less : Int) (hless : I64 less) (x : Nat) (hx : W256 x) (n : Int) (hn : I64 n) :
  Calls Try.prog 3 #[rv, .bool great, .int .i64 less, wv x, .int .i64 n] W fun e w' => e = .returned (.bool true) ∧ Below W.heap.size W w' := by
 have hmx : Try.prog.follows .mixedOrders = true := by kernel_rfl
 have P25 := hid (pick_ret n hn 25 (by decide) (by decide))
 have P1030 := hid (pick_ret n hn 1030 (by decide) (by decide))
 have r25 := pickN_range n 25 (by decide)
 have r1030 := pickN_range n 1030 (by decide)
 generalize pickN n 25 = p25 at *
 generalize pickN n 1030 = p1030 at *
 have HR := hid (show ∀ (k : Nat) (z : Int), [n, p25, p1030][k]? = some z → k < 3 from fun k z h => by have := (List.getElem?_eq_some_iff.1 h).1; simpa using this)
 have HZ := hid hz
 have HX := hid hx
 have HLE := hid hless
 obtain ⟨ra, rc, rfl, _, _⟩ := hz.shape
 generalize zs.length = zn at *
 unfold wv
 clear hz hx hless r25 r1030 hn
 go_enter Try.func3, Try.ntmps3
 have q1 := newA W (.cells #[.int .u64 (lim x 0), .int .u64 (lim x 1), .int .u64 (lim x 2), .int .u64 (lim x 3)] 25)
 have HB := hid (Has.new W 25 #[.int .u64 (lim x 0), .int .u64 (lim x 1), .int .u64 (lim x 2), .int .u64 (lim x 3)])
 replace HZ := hid (HZ.out.later q1)
 have QQ := hid q1
 clear q1
 obtain ⟨V, hV⟩ : ∃ V, W.alloc (.cells #[.int .u64 (lim x 0), .int .u64 (lim x 1), .int .u64 (lim x 2), .int .u64 (lim x 3)] 25) = V := ⟨_, rfl⟩
 rw [hV] at HZ HB QQ
 try rw [hV]
 go_wp2_with fail
 refine (awake_any _).mono ?_
 rintro _ w2 ⟨rfl, q⟩
 replace HZ := hid (HZ.out.later q)
 replace HB := hid (HB.out.later q)
 replace QQ := hid (QQ.out.trans (q.mono QQ.out.size))
 clear q
 clear hV
 go_wp2_with fail
 refine (stack_any _ _ zs great less HZ.out HLE.out).mono ?_
 rintro _ w3 ⟨v, rfl, h, hall, q⟩
 replace HZ := hid (HZ.out.later q)
 replace HB := hid (HB.out.later q)
 replace QQ := hid (QQ.out.trans (q.mono QQ.out.size))
 clear q
 have h' := h.keys hall
 have HALL := hid hall
 have hln := stkW_length zs great less
 generalize stkW zs great less = s at *
 clear h hall
 obtain ⟨sa, sc, rfl, _, _⟩ := h'.shape
 obtain ⟨M, hM⟩ : ∃ M, s.length = M := ⟨_, rfl⟩
 have HM := hid hM
 rw [hM] at h' hln ⊢
 have HML := hid hln
 clear hM hln
 have HS := hid h'
 clear h'
 clear HZ HLE
 have c0 := HB.out.cell 0 _ rfl
 have c1 := HB.out.cell 1 _ rfl
 have c2 := HB.out.cell 2 _ rfl
 have c3 := HB.out.cell 3 _ rfl
 have q4 := newA w3 (.cells #[.int .u64 (lim x 0), .int .u64 (lim x 1), .int .u64 (lim x 2), .int .u64 (lim x 3)] 25)
 have B1 := hid (one_made w3 x HX.out)
 replace HB := hid (HB.out.later q4)
 replace HS := hid (HS.out.later q4)
 replace QQ := hid (QQ.out.trans (q4.mono QQ.out.size))
 clear q4
 have d0 := HB.out.cell 0 _ rfl
 have d1 := HB.out.cell 1 _ rfl
 have d2 := HB.out.cell 2 _ rfl
 have d3 := HB.out.cell 3 _ rfl
 have q5 := (Below.refl (w3.alloc (.cells #[.int .u64 (lim x 0), .int .u64 (lim x 1), .int .u64 (lim x 2), .int .u64 (lim x 3)] 25)).heap.size (w3.alloc (.cells #[.int .u64 (lim x 0), .int .u64 (lim x 1), .int .u64 (lim x 2), .int .u64 (lim x 3)] 25))).alloc (Nat.le_refl _) (.cells #[.int .u64 (lim x 0), .int .u64 (lim x 1), .int .u64 (lim x 2), .int .u64 (lim x 3), .int .u64 1, .int .u64 0, .int .u64 0, .int .u64 0] 25)
 have B2 := hid (made_of (w3.alloc (.cells #[.int .u64 (lim x 0), .int .u64 (lim x 1), .int .u64 (lim x 2), .int .u64 (lim x 3)] 25)) [x, 1] [.int .u64 (lim x 0), .int .u64 (lim x 1), .int .u64 (lim x 2), .int .u64 (lim x 3), .int .u64 1, .int .u64 0, .int .u64 0, .int .u64 0] rfl (fun y hy => by simp at hy; rcases hy with rfl | rfl; exact HX.out; unfold W256; omega) (by simp))
 replace HB := hid (HB.out.later q5)
 replace HS := hid (HS.out.later q5)
 replace B1 := hid (B1.out.later q5)
 replace QQ := hid (QQ.out.trans (q5.mono QQ.out.size))
 clear q5
 simp only [World.size_alloc] at B2
 have q6 := (Below.refl ((w3.alloc (.cells #[.int .u64 (lim x 0), .int .u64 (lim x 1), .int .u64 (lim x 2), .int .u64 (lim x 3)] 25)).alloc (.cells #[.int .u64 (lim x 0), .int .u64 (lim x 1), .int .u64 (lim x 2), .int .u64 (lim x 3), .int .u64 1, .int .u64 0, .int .u64 0, .int .u64 0] 25)).heap.size ((w3.alloc (.cells #[.int .u64 (lim x 0), .int .u64 (lim x 1), .int .u64 (lim x 2), .int .u64 (lim x 3)] 25)).alloc (.cells #[.int .u64 (lim x 0), .int .u64 (lim x 1), .int .u64 (lim x 2), .int .u64 (lim x 3), .int .u64 1, .int .u64 0, .int .u64 0, .int .u64 0] 25))).alloc (Nat.le_refl _) (.cells #[.slice none 0 0, .slice (some ⟨w3.heap.size, 0, none⟩) 1 1, .slice (some ⟨w3.heap.size + 1, 0, none⟩) 2 2, .slice sa M sc] 27)
 have B3 := hid (Has.new ((w3.alloc (.cells #[.int .u64 (lim x 0), .int .u64 (lim x 1), .int .u64 (lim x 2), .int .u64 (lim x 3)] 25)).alloc (.cells #[.int .u64 (lim x 0), .int .u64 (lim x 1), .int .u64 (lim x 2), .int .u64 (lim x 3), .int .u64 1, .int .u64 0, .int .u64 0, .int .u64 0] 25)) 27 #[.slice none 0 0, .slice (some ⟨w3.heap.size, 0, none⟩) 1 1, .slice (some ⟨w3.heap.size + 1, 0, none⟩) 2 2, .slice sa M sc])
 replace HB := hid (HB.out.later q6)
 replace HS := hid (HS.out.later q6)
 replace B1 := hid (B1.out.later q6)
 replace B2 := hid (B2.out.later q6)
 replace QQ := hid (QQ.out.trans (q6.mono QQ.out.size))
 clear q6
 simp only [World.size_alloc] at B3
 obtain ⟨V3, hV3⟩ : ∃ V3, (((w3.alloc (.cells #[.int .u64 (lim x 0), .int .u64 (lim x 1), .int .u64 (lim x 2), .int .u64 (lim x 3)] 25)).alloc (.cells #[.int .u64 (lim x 0), .int .u64 (lim x 1), .int .u64 (lim x 2), .int .u64 (lim x 3), .int .u64 1, .int .u64 0, .int .u64 0, .int .u64 0] 25)).alloc (.cells #[.slice none 0 0, .slice (some ⟨w3.heap.size, 0, none⟩) 1 1, .slice (some ⟨w3.heap.size + 1, 0, none⟩) 2 2, .slice sa M sc] 27)) = V3 := ⟨_, rfl⟩
 rw [hV3] at HB HS B1 B2 B3 QQ
 go_wp2_with fail
 try rw [hV3]
 clear hV3 c0 c1 c2 c3 d0 d1 d2 d3
 obtain ⟨b3, hb3⟩ : ∃ b3, w3.heap.size + 1 + 1 = b3 := ⟨_, rfl⟩
 rw [hb3] at B3 ⊢
 have HVS := hid (show ∀ (X : World), Below V3.heap.size V3 X → ∀ k : Nat, k < 4 → ∃ (a : Option Addr) (m c : Nat) (l : List Nat), X.cell? ⟨b3, k, none⟩ = some (.slice a m c) ∧ WdsAt X (.slice a m c) l ∧ l.length ≤ 1025 from fun X hX k hk => by
  have hb := B3.out.later hX
  obtain rfl | rfl | rfl | rfl : k = 0 ∨ k = 1 ∨ k = 2 ∨ k = 3 := by omega
  ·exact ⟨_, _, _, [], hb.cell 0 _ rfl, WdsAt.nil _, by simp⟩
  ·exact ⟨_, _, _, [x], hb.cell 1 _ rfl, B1.out.later hX, by simp⟩
  ·exact ⟨_, _, _, [x, 1], hb.cell 2 _ rfl, B2.out.later hX, by simp⟩
  ·exact ⟨_, _, _, s, hb.cell 3 _ rfl, HS.out.later hX, by rw [HM.out]; exact HML.out⟩)
 clear hb3 B1 B2 B3 HB
 go_loopw [44] (fun i wr => ∃ j : Nat, j ≤ 4 ∧ i = .int .i64 (j : Int) ∧ Below V3.heap.size V3 wr) (fun i _ => 4 - (intOf i).toNat)
 case atStart => exact ⟨0, by omega, rfl, Below.refl _ _⟩
 case round =>
  obtain ⟨j, hj, rfl, hq⟩ := hrel
  have HQ := hid hq
  clear hq
  by_cases hlt : j < 4
  ·have hltI : (j : Int) < 4 := by omega
   have j0 : (0 : Int) ≤ (j : Int) := by omega
   obtain ⟨la, lm, lc, l, hc, hl, hll⟩ := HVS.out wr HQ.out j hlt
   have ha : (⟨b3, 0, none⟩ : Addr).add j = ⟨b3, j, none⟩ := by rw [Addr.add_mid, Nat.zero_add]
   have HL := hid hl
   have HJ := hid hlt
   have hS := hid (HS.out.later HQ.out)
   have HLL := hid hll
   have QR := hid HQ.out
   clear hlt hj hl hll
   have QQ0 := QQ
   clear QQ
   have QQ := QR
   go_wp2_with fail
   refine (push_any _ _ _ s l hS.out HL.out (by rw [HM.out]; have := HML.out; omega) (by have := HLL.out; omega)).mono ?_
   rintro _ w1 ⟨v, rfl, h, q⟩
   replace HL := hid (HL.out.later q)
   replace hS := hid (hS.out.later q)
   replace QQ := hid (QQ.out.trans (q.mono QQ.out.size))
   clear q
   clear hc
   obtain ⟨ta, tc, rfl, _, _⟩ := h.shape
   have HT := hid h
   clear h
   go_wp2_with fail
   refine (rpush_any _ _ _ s l hS.out HL.out (by rw [HM.out]; have := HML.out; omega) (by have := HLL.out; omega)).mono ?_
   rintro _ w2 ⟨v, rfl, h, q⟩
   replace HL := hid (HL.out.later q)
   replace hS := hid (hS.out.later q)
   replace HT := hid (HT.out.later q)
   replace QQ := hid (QQ.out.trans (q.mono QQ.out.size))
   clear q
   obtain ⟨ua, uc, rfl, _, _⟩ := h.shape
   have HU := hid h
   clear h
   generalize pushE s l = ce at *
   generalize pushL s l = pl at *
   generalize pl.length = pn at *
   go_wp2_with fail
   refine (same_words _ _ _ pl pl HT.out HU.out).mono ?_
   rintro _ w3 ⟨rfl, q⟩
   replace HL := hid (HL.out.later q)
   replace hS := hid (hS.out.later q)
   replace HT := hid (HT.out.later q)
   replace HU := hid (HU.out.later q)
   replace QQ := hid (QQ.out.trans (q.mono QQ.out.size))
   clear q
   rw [show decide (pl = pl) = true by simp]
   have QE := QQ
   clear QQ
   have QQ := QQ0
   go_wp2_with fail
   go_roundw
   case rel => exact ⟨j + 1, by have := HJ.out; omega, by simp, QE.out⟩
   case measure => have := HJ.out; simp [intOf]; omega
  ·obtain rfl : j = 4 := by omega
   clear hlt hj
   have q9 := HQ.out
   replace HS := hid (HS.out.later q9)
   replace QQ := hid (QQ.out.trans (q9.mono QQ.out.size))
   clear q9 HQ HVS
   go_wp2_with fail
   refine (P25.out _).mono ?_
   rintro _ w7 ⟨rfl, q7⟩
   replace HS := hid (HS.out.later q7)
   replace QQ := hid (QQ.out.trans (q7.mono QQ.out.size))
   clear q7
   go_wp2_with fail
   refine (P1030.out _).mono ?_
   rintro _ w8 ⟨rfl, q8⟩
   replace HS := hid (HS.out.later q8)
   replace QQ := hid (QQ.out.trans (q8.mono QQ.out.size))
   clear q8
   have q9 := newA w8 (.cells #[.int .i64 n, .int .i64 p25, .int .i64 p1030] 3)
   have B4 := hid (Has.new w8 3 #[.int .i64 n, .int .i64 p25, .int .i64 p1030])
   replace HS := hid (HS.out.later q9)
   replace QQ := hid (QQ.out.trans (q9.mono QQ.out.size))
   clear q9
   obtain ⟨V4, hV4⟩ : ∃ V4, (w8.alloc (.cells #[.int .i64 n, .int .i64 p25, .int .i64 p1030] 3)) = V4 := ⟨_, rfl⟩
   rw [hV4] at HS B4 QQ
   go_wp2_with fail
   try rw [hV4]
   clear hV4
   obtain ⟨b4, hb4⟩ : ∃ b4, w8.heap.size = b4 := ⟨_, rfl⟩
   rw [hb4] at B4 ⊢
   have HVS := hid (show ∀ (X : World), Below V4.heap.size V4 X → ∀ k : Nat, k < 3 → ∃ z : Int, X.cell? ⟨b4, k, none⟩ = some (.int .i64 z) from fun X hX k hk => by
    have hb := B4.out.later hX
    obtain rfl | rfl | rfl : k = 0 ∨ k = 1 ∨ k = 2 := by omega
    ·exact ⟨_, hb.cell 0 _ rfl⟩
    ·exact ⟨_, hb.cell 1 _ rfl⟩
    ·exact ⟨_, hb.cell 2 _ rfl⟩)
   clear hb4 B4
   go_loopw [77] (fun i wx => ∃ j : Nat, j ≤ 3 ∧ i = .int .i64 (j : Int) ∧ Below V4.heap.size V4 wx) (fun i _ => 3 - (intOf i).toNat)
   case atStart => exact ⟨0, by omega, rfl, Below.refl _ _⟩
   case round =>
    obtain ⟨wx, hwx⟩ : ∃ wx, wx = wr := ⟨_, rfl⟩
    subst hwx
    obtain ⟨j, hj, rfl, hq⟩ := hrel
    have HQ := hid hq
    clear hq
    by_cases hlt : j < 3
    ·have hltI : (j : Int) < 3 := by omega
     have j0 : (0 : Int) ≤ (j : Int) := by omega
     obtain ⟨z, hc⟩ := HVS.out wx HQ.out j hlt
     have ha : (⟨b4, 0, none⟩ : Addr).add j = ⟨b4, j, none⟩ := by rw [Addr.add_mid, Nat.zero_add]
     have HJ := hid hlt
     have hS := hid (HS.out.later HQ.out)
     have QR := hid HQ.out
     clear hlt hj
     have QQ0 := QQ
     clear QQ
     have QQ := QR
     go_wp2_with fail
     refine (dup_any _ _ s z hS.out (by rw [HM.out]; have := HML.out; omega)).mono ?_
     rintro _ w1 ⟨v, rfl, h, q⟩
     replace hS := hid (hS.out.later q)
     replace QQ := hid (QQ.out.trans (q.mono QQ.out.size))
     clear q
     clear hc
     obtain ⟨ta, tc, rfl, _, _⟩ := h.shape
     have HT := hid h
     clear h
     go_wp2_with fail
     refine (rdup_any _ _ s z hS.out (by rw [HM.out]; have := HML.out; omega)).mono ?_
     rintro _ w2 ⟨v, rfl, h, q⟩
     replace hS := hid (hS.out.later q)
     replace HT := hid (HT.out.later q)
     replace QQ := hid (QQ.out.trans (q.mono QQ.out.size))
     clear q
     obtain ⟨ua, uc, rfl, _, _⟩ := h.shape
     have HU := hid h
     clear h
     generalize dupE s z = ce at *
     generalize dupL s z = pl at *
     generalize pl.length = pn at *
     go_wp2_with fail
     refine (swap_any _ _ s z hS.out (by rw [HM.out]; have := HML.out; omega)).mono ?_
     rintro _ w3 ⟨v, rfl, h, q⟩
     replace hS := hid (hS.out.later q)
     replace HT := hid (HT.out.later q)
     replace HU := hid (HU.out.later q)
     replace QQ := hid (QQ.out.trans (q.mono QQ.out.size))
     clear q
     obtain ⟨va, vc, rfl, _, _⟩ := h.shape
     have HV := hid h
     clear h
     go_wp2_with fail
     refine (rswap_any _ _ s z hS.out (by rw [HM.out]; have := HML.out; omega)).mono ?_
     rintro _ w4 ⟨v, rfl, h, q⟩
     replace hS := hid (hS.out.later q)
     replace HT := hid (HT.out.later q)
     replace HU := hid (HU.out.later q)
     replace HV := hid (HV.out.later q)
     replace QQ := hid (QQ.out.trans (q.mono QQ.out.size))
     clear q
     obtain ⟨ya, yc, rfl, _, _⟩ := h.shape
     have HY := hid h
     clear h
     generalize askN s.length z 1 1 = de at *
     generalize swpL s z = ql at *
     generalize ql.length = qn at *
     go_wp2_with fail
     refine (same_words _ _ _ pl pl HT.out HU.out).mono ?_
     rintro _ w5 ⟨rfl, q⟩
     replace hS := hid (hS.out.later q)
     replace HT := hid (HT.out.later q)
     replace HU := hid (HU.out.later q)
     replace HV := hid (HV.out.later q)
     replace HY := hid (HY.out.later q)
     replace QQ := hid (QQ.out.trans (q.mono QQ.out.size))
     clear q
     rw [show decide (pl = pl) = true by simp]
     go_wp2_with fail
     refine (same_words _ _ _ ql ql HV.out HY.out).mono ?_
     rintro _ w6 ⟨rfl, q⟩
     replace hS := hid (hS.out.later q)
     replace HT := hid (HT.out.later q)
     replace HU := hid (HU.out.later q)
     replace HV := hid (HV.out.later q)
     replace HY := hid (HY.out.later q)
     replace QQ := hid (QQ.out.trans (q.mono QQ.out.size))
     clear q
     rw [show decide (ql = ql) = true by simp]
     clear HT HU HV HY
     go_wp2_with fail
     refine (pop_any _ _ s z hS.out (by rw [HM.out]; have := HML.out; omega)).mono ?_
     rintro _ w7 ⟨v, u, rfl, h, h2, q⟩
     replace hS := hid (hS.out.later q)
     replace QQ := hid (QQ.out.trans (q.mono QQ.out.size))
     clear q
     obtain ⟨ta2, tc2, rfl, _, _⟩ := h.shape
     obtain ⟨tb2, td2, rfl, _, _⟩ := h2.shape
     have HT := hid h
     clear h
     have HT2 := hid h2
     clear h2
     go_wp2_with fail
     refine (rpop_any _ _ s z hS.out (by rw [HM.out]; have := HML.out; omega)).mono ?_
     rintro _ w8 ⟨v, u, rfl, h, h2, q⟩
     replace hS := hid (hS.out.later q)
     replace HT := hid (HT.out.later q)
     replace HT2 := hid (HT2.out.later q)
     replace QQ := hid (QQ.out.trans (q.mono QQ.out.size))
     clear q
     obtain ⟨ua2, uc2, rfl, _, _⟩ := h.shape
     obtain ⟨ub2, ud2, rfl, _, _⟩ := h2.shape
     have HU := hid h
     clear h
     have HU2 := hid h2
     clear h2
     generalize askN s.length z 0 0 = fe at *
     generalize popL s z = rl at *
     generalize popT s z = tl at *
     generalize rl.length = rn at *
     generalize tl.length = tn at *
     go_wp2_with fail
     refine (same_words _ _ _ rl rl HT.out HU.out).mono ?_
     rintro _ w9 ⟨rfl, q⟩
     replace hS := hid (hS.out.later q)
     replace HT := hid (HT.out.later q)
     replace HT2 := hid (HT2.out.later q)
     replace HU := hid (HU.out.later q)
     replace HU2 := hid (HU2.out.later q)
     replace QQ := hid (QQ.out.trans (q.mono QQ.out.size))
     clear q
     rw [show decide (rl = rl) = true by simp]
     go_wp2_with fail
     refine (same_words _ _ _ tl tl HT2.out HU2.out).mono ?_
     rintro _ w10 ⟨rfl, q⟩
     replace hS := hid (hS.out.later q)
     replace HT := hid (HT.out.later q)
     replace HT2 := hid (HT2.out.later q)
     replace HU := hid (HU.out.later q)
     replace HU2 := hid (HU2.out.later q)
     replace QQ := hid (QQ.out.trans (q.mono QQ.out.size))
     clear q
     rw [show decide (tl = tl) = true by simp]
     have QE := QQ
     clear QQ
     have QQ := QQ0
     go_wp2_with fail
     go_roundw
     case rel => exact ⟨j + 1, by have := HJ.out; omega, by simp, QE.out⟩
     case measure => have := HJ.out; simp [intOf]; omega
    ·obtain rfl : j = 3 := by omega
     have QF := QQ.out.trans (HQ.out.mono QQ.out.size)
     go_wp2_with fail
     go_ret
     exact ⟨rfl, QF⟩
end
section
open Go Go.RowKit
theorem Ext.atW {W : World} {z : Ext W} {P : Program} {f : FuncId} {args : Array Value} {v : Value} (h : Calls P f args z.w fun e w' => e = .returned v ∧ Below z.w.heap.size z.w w') : Calls P f args z.w fun e w' => e = .returned v ∧ ∃ x : Ext W, w' = x.w :=
 h.mono fun _ w' ⟨h1, h2⟩ => ⟨h1, ⟨w', z.below.trans (h2.mono z.below.size)⟩, rfl⟩
theorem pushE_ok {s l : List Nat} (h : s.length + l.length ≤ 1024) : pushE s l = 0 := by unfold pushE; rw [if_neg (by omega), if_neg (by omega)]
theorem pushL_ok {s l : List Nat} (h : s.length + l.length ≤ 1024) : pushL s l = s ++ l := by unfold pushL; rw [pushE_ok h, if_pos rfl]
theorem ask_in {n : Nat} {k least below : Int} (hn : n ≤ 1024) (h1 : least ≤ k) (h2 : k ≤ (n : Int) - below) : askN n k least below = 0 := by unfold askN; rw [if_neg (by omega), if_neg (by omega)]
theorem ask_out {n : Nat} {k least below : Int} (hn : n ≤ 1024) (h1 : least ≤ k) (h2 : (n : Int) - below < k) : askN n k least below = 40 := by unfold askN; rw [if_neg (by omega), if_pos h2]
theorem popL_ok {s : List Nat} {m : Nat} (hs : s.length ≤ 1024) (hm : m ≤ s.length) : popL s (m : Int) = s.take (s.length - m) := by unfold popL; rw [ask_in hs (by omega) (by omega), if_pos rfl, Int.toNat_natCast]
theorem popT_ok {s : List Nat} {m : Nat} (hs : s.length ≤ 1024) (hm : m ≤ s.length) : popT s (m : Int) = (List.range m).map (nthW s) := by unfold popT; rw [ask_in hs (by omega) (by omega), if_pos rfl, Int.toNat_natCast]
theorem nthW_at {l : List Nat} {i : Nat} (h : i < l.length) : l[l.length - 1 - i]? = some (nthW l i) := by unfold nthW; exact getD_at (by omega)
theorem nthW_append {s l : List Nat} {i : Nat} (h : i < l.length) : nthW (s ++ l) i = nthW l i := by
 unfold nthW
 rw [List.getD_eq_getElem?_getD, List.getD_eq_getElem?_getD, List.length_append, List.getElem?_append_right (by omega), show s.length + l.length - 1 - i - s.length = l.length - 1 - i by omega]
theorem nthW_take {l : List Nat} {m i : Nat} (hm : m ≤ l.length) (hi : i < l.length - m) : nthW (l.take (l.length - m)) i = nthW l (m + i) := by
 unfold nthW
 rw [List.getD_eq_getElem?_getD, List.getD_eq_getElem?_getD, List.length_take, Nat.min_eq_left (by omega), List.getElem?_take, if_pos (by omega), show l.length - m - 1 - i = l.length - 1 - (m + i) by omega]
theorem popT_parts {a : List Nat} {m k : Nat} (h : m + k ≤ a.length) : (List.range (m + k)).map (nthW a) = (List.range m).map (nthW a) ++ (List.range k).map (nthW (a.take (a.length - m))) := by
 rw [List.range_add, List.map_append]
 congr 1
 rw [List.map_map]
 refine List.map_congr_left fun i hi => ?_
 rw [List.mem_range] at hi
 show nthW a (m + i) = _
 rw [nthW_take (by omega) (by omega)]
theorem swpL_length (s : List Nat) (k : Int) : (swpL s k).length = s.length := by
 unfold swpL
 split
 ·rw [List.length_set, List.length_set]
 ·rfl
theorem swp_at {s : List Nat} {k : Nat} (h : askN s.length (k : Int) 1 1 = 0) (i : Nat) : (swpL s (k : Int))[i]? = if i = s.length - 1 then s[s.length - 1 - k]? else if i = s.length - 1 - k then s[s.length - 1]? else s[i]? := by
 obtain ⟨g1, g2, g3⟩ := ask_ok h
 unfold swpL
 rw [if_pos h, Int.toNat_natCast, List.getElem?_set, List.getElem?_set]
 by_cases h1 : i = s.length - 1
 ·rw [if_neg (by omega), if_pos h1.symm, if_pos h1, if_pos (by omega)]
  exact (getD_at (by omega)).symm
 ·rw [if_neg h1]
  by_cases h2 : i = s.length - 1 - k
  ·rw [if_pos h2.symm, if_pos h2, if_pos (by rw [List.length_set]; omega)]
   exact (getD_at (by omega)).symm
  ·rw [if_neg (fun e => h2 e.symm), if_neg h2, if_neg (fun e => h1 e.symm)]
theorem swp_swp (s : List Nat) (k : Nat) : swpL (swpL s (k : Int)) (k : Int) = s := by
 by_cases h : askN s.length (k : Int) 1 1 = 0
 ·obtain ⟨g1, g2, g3⟩ := ask_ok h
  have h' : askN (swpL s (k : Int)).length (k : Int) 1 1 = 0 := by rw [swpL_length]; exact h
  refine List.ext_getElem? fun i => ?_
  rw [swp_at h', swpL_length, swp_at h, swp_at h, swp_at h]
  by_cases h1 : i = s.length - 1
  ·rw [if_pos h1, if_neg (by omega), if_pos rfl, h1]
  ·rw [if_neg h1]
   by_cases h2 : i = s.length - 1 - k
   ·rw [if_pos h2, if_pos rfl, h2]
   ·rw [if_neg h2, if_neg h1, if_neg h2]
 ·have e : swpL s (k : Int) = s := by unfold swpL; rw [if_neg h]
  rw [e, e]
structure TurnW (s : List Nat) (m : Nat) (t : List Nat) : Prop where
 len : t.length = s.length
 top : t[s.length - 1]? = s[s.length - 1 - m]?
 up : ∀ q, 1 ≤ q → q ≤ m → t[s.length - 1 - q]? = s[s.length - q]?
 low : ∀ i, i + m < s.length - 1 → t[i]? = s[i]?
theorem TurnW.start (s : List Nat) : TurnW s 0 s := ⟨rfl, rfl, fun q h1 h2 => by omega, fun i _ => rfl⟩
theorem TurnW.next {s t : List Nat} {m : Nat} (h : TurnW s m t) (hs : s.length ≤ 1024) (hm : m + 1 < s.length) : askN t.length ((m + 1 : Nat) : Int) 1 1 = 0 ∧ TurnW s (m + 1) (swpL t ((m + 1 : Nat) : Int)) := by
 have ha : askN t.length ((m + 1 : Nat) : Int) 1 1 = 0 := ask_in (by rw [h.len]; exact hs) (by omega) (by rw [h.len]; omega)
 refine ⟨ha, by rw [swpL_length, h.len], ?_, fun q h1 h2 => ?_, fun i hi => ?_⟩
 ·rw [swp_at ha, h.len, if_pos rfl]
  exact h.low _ (by omega)
 ·rw [swp_at ha, h.len, if_neg (by omega)]
  by_cases hq : q = m + 1
  ·subst hq
   rw [if_pos rfl, h.top, show s.length - 1 - m = s.length - (m + 1) by omega]
  ·rw [if_neg (by omega)]
   exact h.up q h1 (by omega)
 ·rw [swp_at ha, h.len, if_neg (by omega), if_neg (by omega)]
  exact h.low i (by omega)
theorem TurnW.done {s t : List Nat} (h : TurnW s (s.length - 1) t) {i : Nat} (hi : i < s.length) : t[i]? = s[(i + 1) % s.length]? := by
 by_cases h1 : i = s.length - 1
 ·subst h1
  rw [h.top, show s.length - 1 + 1 = s.length by omega, Nat.mod_self, Nat.sub_self]
 ·have := h.up (s.length - 1 - i) (by omega) (by omega)
  rw [show s.length - 1 - (s.length - 1 - i) = i by omega, show s.length - (s.length - 1 - i) = i + 1 by omega] at this
  rw [this, Nat.mod_eq_of_lt (by omega)]
end
end Go.Proofs.Ythfghmodfpddpaa
