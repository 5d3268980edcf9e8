/- Part. -/
import Derived.Test.YthfghmodfpddpaaG06
set_option maxRecDepth 100000
set_option maxHeartbeats 16000000
namespace Go.Proofs.Ythfghmodfpddpaa
open Go Go.RowKit
attribute [local go_sem] Oper.semAt_some Grows wide_fn eq4
theorem stkW_raw (zs : List Int) (less : Int) : stkW zs false less = rawW zs 20 := by unfold stkW; rw [if_neg (by decide)]
theorem stackBack_any (W : World) (rv : Value) (zs : List Int) (hz : NumsAt W rv zs) (mv : Value) (ms : List Int) (hm : NumsAt W mv ms) (n : Int) (hn : I64 n) :
  Calls Try.prog 4 #[rv, mv, .int .i64 n] W fun e w' => e = .returned (.bool true) ∧ Below W.heap.size W w' := by
 have hmx : Try.prog.follows .mixedOrders = true := by kernel_rfl
 have P22 := hid (pick_ret n hn 22 (by decide) (by decide))
 have r22 := pickN_range n 22 (by decide)
 generalize pickN n 22 = p22 at *
 obtain ⟨d, rfl⟩ : ∃ d : Nat, p22 = (d : Int) := ⟨p22.toNat, by omega⟩
 obtain ⟨K, hKd⟩ : ∃ K : Nat, 1 + d = K := ⟨_, rfl⟩
 have hK : (1 : Int) + (d : Int) = (K : Int) := by omega
 have HK := hid (show 1 ≤ K ∧ K ≤ 22 from ⟨by omega, by omega⟩)
 have d0 : (0 : Int) ≤ (d : Int) := by omega
 have d22 : (d : Int) < 22 := by omega
 have HZ := hid hz
 have HM := hid hm
 obtain ⟨ra, rc, rfl, _, _⟩ := hz.shape
 obtain ⟨ma, mc, rfl, _, _⟩ := hm.shape
 generalize zs.length = zn at *
 generalize ms.length = mn at *
 clear hz hm hn r22 hKd
 go_enter Try.func4, Try.ntmps4
 go_wp2_with fail
 refine (awake_any _).mono ?_
 rintro _ w1 ⟨rfl, q⟩
 replace HZ := hid (HZ.out.later q)
 replace HM := hid (HM.out.later q)
 have QQ := hid q
 clear q
 go_wp2_with fail
 refine (stack_any _ _ zs false 0 HZ.out (by unfold I64; omega)).mono ?_
 rintro _ w2 ⟨v, rfl, h, hall, q⟩
 replace HZ := hid (HZ.out.later q)
 replace HM := hid (HM.out.later q)
 replace QQ := hid (QQ.out.trans (q.mono QQ.out.size))
 clear q
 rw [stkW_raw] at h hall
 have h' := h.keys hall
 have As := hid hall
 have hln := rawW_length zs
 generalize rawW zs 20 = s at *
 clear h hall
 obtain ⟨sa, sc, rfl, _, _⟩ := h'.shape
 obtain ⟨sN, hsN⟩ : ∃ N, s.length = N := ⟨_, rfl⟩
 have Ls := hid hsN
 rw [hsN] at h' hln ⊢
 have Gs := hid hln
 clear hsN hln
 have Hs := hid h'
 clear h'
 go_wp2_with fail
 refine (stack_any _ _ ms false 0 HM.out (by unfold I64; omega)).mono ?_
 rintro _ w3 ⟨v, rfl, h, hall, q⟩
 replace HZ := hid (HZ.out.later q)
 replace HM := hid (HM.out.later q)
 replace Hs := hid (Hs.out.later q)
 replace QQ := hid (QQ.out.trans (q.mono QQ.out.size))
 clear q
 rw [stkW_raw] at h hall
 have h' := h.keys hall
 have Al := hid hall
 have hln := rawW_length ms
 generalize rawW ms 20 = l at *
 clear h hall
 obtain ⟨la, lc, rfl, _, _⟩ := h'.shape
 obtain ⟨lN, hlN⟩ : ∃ N, l.length = N := ⟨_, rfl⟩
 have Ll := hid hlN
 rw [hlN] at h' hln ⊢
 have Gl := hid hln
 clear hlN hln
 have Hl := hid h'
 clear h'
 clear HZ HM
 have HSL := hid (show s.length + l.length ≤ 40 by rw [Ls.out, Ll.out]; have := Gs.out; have := Gl.out; omega)
 go_wp2_with fail
 refine (push_any _ _ _ s l Hs.out Hl.out (by rw [Ls.out]; have := Gs.out; omega) (by rw [Ll.out]; have := Gl.out; omega)).mono ?_
 rintro _ w4 ⟨v, rfl, h, q⟩
 replace Hs := hid (Hs.out.later q)
 replace Hl := hid (Hl.out.later q)
 replace QQ := hid (QQ.out.trans (q.mono QQ.out.size))
 clear q
 rw [show pushE s l = 0 from pushE_ok (by have := HSL.out; omega)]
 rw [show pushL s l = s ++ l from pushL_ok (by have := HSL.out; omega)] at h
 obtain ⟨aa, ac, rfl, _, _⟩ := h.shape
 obtain ⟨aN, haN⟩ : ∃ aN, (s ++ l).length = aN := ⟨_, rfl⟩
 rw [haN] at h ⊢
 have La := hid haN
 clear haN
 have Ha := hid h
 clear h
 have i0 : (0 : Int) ≤ (lN : Int) := by omega
 have i1 : (lN : Int) ≤ 20 := by have := Gl.out; omega
 have j0 : (0 : Int) ≤ (sN : Int) := by omega
 have j1 : (sN : Int) ≤ 20 := by have := Gs.out; omega
 go_wp2_with fail
 refine (pop_any _ _ (s ++ l) (lN : Int) Ha.out (by rw [List.length_append]; have := HSL.out; omega)).mono ?_
 rintro _ w5 ⟨v, u, rfl, h, h2, q⟩
 replace Hs := hid (Hs.out.later q)
 replace Hl := hid (Hl.out.later q)
 replace Ha := hid (Ha.out.later q)
 replace QQ := hid (QQ.out.trans (q.mono QQ.out.size))
 clear q
 have hle : (s ++ l).length ≤ 1024 := by rw [List.length_append]; have := HSL.out; omega
 have hle2 : lN ≤ (s ++ l).length := by rw [List.length_append, Ll.out]; omega
 rw [show askN (s ++ l).length (lN : Int) 0 0 = 0 from ask_in hle (by omega) (by omega)]
 rw [show popL (s ++ l) (lN : Int) = _ from popL_ok hle hle2] at h
 rw [show popT (s ++ l) (lN : Int) = _ from popT_ok hle hle2] at h2
 clear hle hle2
 have htk : List.take ((s ++ l).length - lN) (s ++ l) = s := by rw [List.length_append, Ll.out, Nat.add_sub_cancel]; exact take_front s l
 rw [htk] at h
 obtain ⟨ba, bc, rfl, _, _⟩ := h.shape
 obtain ⟨xa, xc, rfl, _, _⟩ := h2.shape
 rw [List.length_map, List.length_range] at h2 ⊢
 rw [Ls.out] at h ⊢
 have HXT := hid (show ∀ i, i < lN → ((List.range lN).map (nthW (s ++ l)))[i]? = some (nthW l i) from fun i hi => by rw [List.getElem?_map, List.getElem?_range hi, Option.map_some, nthW_append (by rw [Ll.out]; exact hi)])
 clear htk
 have Hb := hid h
 clear h
 generalize (List.range lN).map (nthW (s ++ l)) = xl at *
 have Hx := hid h2
 clear h2
 go_wp2_with fail
 refine (same_words _ _ _ s s Hb.out Hs.out).mono ?_
 rintro _ w6 ⟨rfl, q⟩
 replace Hs := hid (Hs.out.later q)
 replace Hl := hid (Hl.out.later q)
 replace Ha := hid (Ha.out.later q)
 replace Hb := hid (Hb.out.later q)
 replace Hx := hid (Hx.out.later q)
 replace QQ := hid (QQ.out.trans (q.mono QQ.out.size))
 clear q
 rw [show decide (s = s) = true by simp]
 clear Ha Hb
 go_wp2_with fail
 go_loopw [15] (fun i wr => ∃ j : Nat, j ≤ lN ∧ i = .int .i64 (j : Int) ∧ Below w6.heap.size w6 wr) (fun i _ => lN - (intOf i).toNat)
 case atStart => exact ⟨0, by omega, rfl, Below.refl _ _⟩
 case round =>
  obtain ⟨j, hj, rfl, hq⟩ := hrel
  have HQ := hid hq
  clear hq
  by_cases hlt : j < lN
  ·have hltI : (j : Int) < (lN : Int) := by omega
   have jj0 : (0 : Int) ≤ (j : Int) := by omega
   have HJ := hid hlt
   obtain ⟨i, hi⟩ : ∃ i : Nat, lN - 1 - j = i := ⟨_, rfl⟩
   have e1 : (lN : Int) - 1 - (j : Int) = (i : Int) := by omega
   have ii0 : (0 : Int) ≤ (i : Int) := by omega
   have ii1 : (i : Int) < (lN : Int) := by omega
   have hx := HXT.out j hlt
   have hy : l[i]? = some (nthW l j) := by rw [← hi, ← Ll.out]; exact nthW_at (by rw [Ll.out]; exact hlt)
   obtain ⟨b1, rfl, _⟩ := Hx.out.at hx
   obtain ⟨b2, rfl, _⟩ := Hl.out.at hy
   have hC := fun z : Ext wr => (Hx.out.later (HQ.out.trans (z.below.mono HQ.out.size))).at4 hx
   have hD := fun z : Ext wr => (Hl.out.later (HQ.out.trans (z.below.mono HQ.out.size))).at4 hy
   have c0 := fun z : Ext wr => (hC z).1
   have c1 := fun z : Ext wr => (hC z).2.1
   have c2 := fun z : Ext wr => (hC z).2.2.1
   have c3 := fun z : Ext wr => (hC z).2.2.2
   have e0 := fun z : Ext wr => (hD z).1
   have e1' := fun z : Ext wr => (hD z).2.1
   have e2 := fun z : Ext wr => (hD z).2.2.1
   have e3 := fun z : Ext wr => (hD z).2.2.2
   clear hC hD hx hy hi hlt hj
   generalize nthW l j = y at *
   go_wp2_with fail
   refine wp_region_quietL (C := Grows wr) hmx (by kernel_rfl) (grows_refl wr) ?_
   repeat (go_big_quiet_step (fail))
   refine wpQuiet_nil ?_
   rintro _ ⟨z, rfl⟩
   have HE := hid (HQ.out.trans (z.below.mono HQ.out.size))
   clear c0 c1 c2 c3 e0 e1' e2 e3
   go_wp2_with fail
   go_roundw
   case rel => exact ⟨j + 1, by have := HJ.out; omega, by simp, HE.out⟩
   case measure => have := HJ.out; simp [intOf]; omega
  ·obtain rfl : j = lN := by omega
   have hkk : ¬ (j : Int) < (j : Int) := by omega
   clear hlt hj Hx HXT
   clear Hl
   have q9 := HQ.out
   replace Hs := hid (Hs.out.later q9)
   replace QQ := hid (QQ.out.trans (q9.mono QQ.out.size))
   clear q9 HQ
   go_wp2_with fail
   refine (P22.out _).mono ?_
   rintro _ w7 ⟨rfl, q7⟩
   replace Hs := hid (Hs.out.later q7)
   replace QQ := hid (QQ.out.trans (q7.mono QQ.out.size))
   clear q7
   go_wp2_with fail
   refine (swap_any _ _ s (K : Int) Hs.out (by rw [Ls.out]; have := Gs.out; omega)).mono ?_
   rintro _ w8 ⟨v, rfl, h, q⟩
   replace Hs := hid (Hs.out.later q)
   replace QQ := hid (QQ.out.trans (q.mono QQ.out.size))
   clear q
   obtain ⟨ca, cc, rfl, _, _⟩ := h.shape
   rw [swpL_length, Ls.out] at h ⊢
   have Hc := hid h
   clear h
   go_wp2_with fail
   refine (swap_any _ _ (swpL s (K : Int)) (K : Int) Hc.out (by rw [swpL_length, Ls.out]; have := Gs.out; omega)).mono ?_
   rintro _ w9 ⟨v, rfl, h, q⟩
   replace Hs := hid (Hs.out.later q)
   replace Hc := hid (Hc.out.later q)
   replace QQ := hid (QQ.out.trans (q.mono QQ.out.size))
   clear q
   obtain ⟨da, dc, rfl, _, _⟩ := h.shape
   rw [swp_swp] at h
   rw [swpL_length, swpL_length, Ls.out]
   rw [Ls.out] at h
   have Hd := hid h
   clear h
   go_wp2_with fail
   refine (dup_any _ _ s (K : Int) Hs.out (by rw [Ls.out]; have := Gs.out; omega)).mono ?_
   rintro _ w10 ⟨v, rfl, h, q⟩
   replace Hs := hid (Hs.out.later q)
   replace Hc := hid (Hc.out.later q)
   replace Hd := hid (Hd.out.later q)
   replace QQ := hid (QQ.out.trans (q.mono QQ.out.size))
   clear q
   obtain ⟨pa, pc, rfl, _, _⟩ := h.shape
   have Hp := hid h
   clear h
   go_wp2_with fail
   refine (pop_any _ _ s (K : Int) Hs.out (by rw [Ls.out]; have := Gs.out; omega)).mono ?_
   rintro _ w11 ⟨v, u, rfl, h, h2, q⟩
   replace Hs := hid (Hs.out.later q)
   replace Hc := hid (Hc.out.later q)
   replace Hd := hid (Hd.out.later q)
   replace Hp := hid (Hp.out.later q)
   replace QQ := hid (QQ.out.trans (q.mono QQ.out.size))
   clear q
   obtain ⟨fa, fc, rfl, _, _⟩ := h.shape
   obtain ⟨ya, yc, rfl, _, _⟩ := h2.shape
   rw [Ls.out]
   clear h
   have Hy := hid h2
   clear h2
   clear hK d0 d22 P22 Hc
   have kk0 : (1 : Int) ≤ (K : Int) := by have := HK.out; omega
   have kk1 : (K : Int) ≤ 22 := by have := HK.out; omega
   have hs1 : sN ≤ 1024 := by have := Gs.out; omega
   by_cases hgt : sN < K
   ·have g1 : askN sN (K : Int) 1 1 = 40 := ask_out hs1 (by omega) (by omega)
    have g2 : askN sN (K : Int) 0 0 = 40 := ask_out hs1 (by omega) (by omega)
    have g3 : askN sN (K : Int) 1 0 = 40 := ask_out hs1 (by omega) (by omega)
    have g4 : dupE s (K : Int) = 40 := by unfold dupE; rw [Ls.out, g3, if_neg (by decide)]
    have g5 : dupL s (K : Int) = s := by unfold dupL; rw [Ls.out, g3, if_neg (by decide)]
    rw [g1, g2, g4, g5, Ls.out]
    rw [g5, Ls.out] at Hp
    have m1 : ¬ (K : Int) < (sN : Int) := by omega
    have m2 : ¬ (K : Int) ≤ (sN : Int) := by omega
    clear g1 g2 g3 g4 g5 hgt Hy
    go_wp2_with fail
    refine (same_words _ _ _ s s Hd.out Hs.out).mono ?_
    rintro _ w12 ⟨rfl, q⟩
    replace Hs := hid (Hs.out.later q)
    replace Hd := hid (Hd.out.later q)
    replace Hp := hid (Hp.out.later q)
    replace QQ := hid (QQ.out.trans (q.mono QQ.out.size))
    clear q
    rw [show decide (s = s) = true by simp]
    go_wp2_with fail
    refine (same_words _ _ _ s s Hp.out Hs.out).mono ?_
    rintro _ w13 ⟨rfl, q⟩
    replace Hs := hid (Hs.out.later q)
    replace Hd := hid (Hd.out.later q)
    replace Hp := hid (Hp.out.later q)
    replace QQ := hid (QQ.out.trans (q.mono QQ.out.size))
    clear q
    rw [show decide (s = s) = true by simp]
    go_wp2_with fail
    go_ret
    exact ⟨rfl, QQ.out⟩
   ·by_cases heq : sN = K
    ·have g1 : askN sN (K : Int) 1 1 = 40 := ask_out hs1 (by omega) (by omega)
     have g2 : askN sN (K : Int) 0 0 = 0 := ask_in hs1 (by omega) (by omega)
     have g3 : askN sN (K : Int) 1 0 = 0 := ask_in hs1 (by omega) (by omega)
     have g4 : dupE s (K : Int) = 0 := by unfold dupE; rw [Ls.out, g3, if_pos rfl, pushE_ok (by rw [Ls.out]; show sN + 1 ≤ 1024; have := Gs.out; omega)]
     have g5 : dupL s (K : Int) = s ++ [topW s (K : Int)] := by unfold dupL; rw [Ls.out, g3, if_pos rfl, pushL_ok (by rw [Ls.out]; show sN + 1 ≤ 1024; have := Gs.out; omega)]
     have g6 : popT s (K : Int) = (List.range K).map (nthW s) := popT_ok (by rw [Ls.out]; exact hs1) (by rw [Ls.out]; omega)
     have g7 : (s ++ [topW s (K : Int)]).length = sN + 1 := by rw [List.length_append, Ls.out]; rfl
     rw [g1, g2, g4, g5, g6, g7, List.length_map, List.length_range]
     rw [g5, g7] at Hp
     rw [g6, List.length_map, List.length_range] at Hy
     have m1 : ¬ (K : Int) < (sN : Int) := by omega
     have m2 : (K : Int) ≤ (sN : Int) := by omega
     have htop : topW s (K : Int) = nthW s (K - 1) := by unfold topW nthW; rw [Int.toNat_natCast]; congr 1; omega
     have HPX := hid (show (s ++ [topW s (K : Int)])[sN]? = some (nthW s (K - 1)) by rw [List.getElem?_append_right (by have := Ls.out; omega), Ls.out, Nat.sub_self, htop]; rfl)
     have HYX := hid (show ((List.range K).map (nthW s))[K - 1]? = some (nthW s (K - 1)) by rw [List.getElem?_map, List.getElem?_range (by omega)]; rfl)
     have HTK := hid (show List.take sN (s ++ [topW s (K : Int)]) = s by rw [← Ls.out]; exact take_front s _)
     obtain ⟨i, hi⟩ : ∃ i : Nat, K - 1 = i := ⟨_, rfl⟩
     have e1 : (K : Int) - 1 = (i : Int) := by omega
     have ii0 : (0 : Int) ≤ (i : Int) := by omega
     have ii1 : (i : Int) < (K : Int) := by omega
     rw [hi] at HPX HYX
     have hcast : ((sN + 1 : Nat) : Int) = (sN : Int) + 1 := by omega
     clear hi htop g1 g2 g3 g4 g5 g6 g7 hgt heq hs1 kk0 kk1
     generalize nthW s i = y at *
     generalize (List.range K).map (nthW s) = yl at *
     generalize s ++ [topW s (K : Int)] = pl at *
     go_wp2_with fail
     refine (same_words _ _ _ s s Hd.out Hs.out).mono ?_
     rintro _ w12 ⟨rfl, q⟩
     replace Hs := hid (Hs.out.later q)
     replace Hd := hid (Hd.out.later q)
     replace Hp := hid (Hp.out.later q)
     replace Hy := hid (Hy.out.later q)
     replace QQ := hid (QQ.out.trans (q.mono QQ.out.size))
     clear q
     rw [show decide (s = s) = true by simp]
     have hpc : sN ≤ pc := by obtain ⟨_, _, e, h, _⟩ := Hp.out.shape; injection e with _ e1 e2; omega
     have KS := hid (fun z : Ext w12 => Ext.atW (same_words z.w (.slice pa sN pc) (.slice sa sN sc) s s (by have h := (Hp.out.later z.below).take sN (by omega); rw [HTK.out] at h; exact h) (Hs.out.later z.below)))
     rw [show decide (s = s) = true by simp] at KS
     obtain ⟨b1, rfl, _⟩ := Hp.out.at HPX.out
     obtain ⟨b2, rfl, _⟩ := Hy.out.at HYX.out
     have hC := fun z : Ext w12 => (Hp.out.later z.below).at4 HPX.out
     have hD := fun z : Ext w12 => (Hy.out.later z.below).at4 HYX.out
     have c0 := fun z : Ext w12 => (hC z).1
     have c1 := fun z : Ext w12 => (hC z).2.1
     have c2 := fun z : Ext w12 => (hC z).2.2.1
     have c3 := fun z : Ext w12 => (hC z).2.2.2
     have e0 := fun z : Ext w12 => (hD z).1
     have e1' := fun z : Ext w12 => (hD z).2.1
     have e2 := fun z : Ext w12 => (hD z).2.2.1
     have e3 := fun z : Ext w12 => (hD z).2.2.2
     have M1 : (sN : Int) < (sN : Int) + 1 := by omega
     have M2 : (sN : Int) ≤ (sN : Int) + 1 := by omega
     clear hC hD
     go_wp2_with fail
     refine wp_region_quietL (C := Grows w12) hmx (by kernel_rfl) (grows_refl w12) ?_
     repeat (go_big_quiet_step (first | (with_reducible exact KS.out _)))
     refine wpQuiet_nil ?_
     rintro _ ⟨z, rfl⟩
     have QE := hid (QQ.out.trans (z.below.mono QQ.out.size))
     clear c0 c1 c2 c3 e0 e1' e2 e3
     go_wp2_with fail
     go_ret
     exact ⟨rfl, QE.out⟩
    ·have g1 : askN sN (K : Int) 1 1 = 0 := ask_in hs1 (by omega) (by omega)
     have g2 : askN sN (K : Int) 0 0 = 0 := ask_in hs1 (by omega) (by omega)
     have g3 : askN sN (K : Int) 1 0 = 0 := ask_in hs1 (by omega) (by omega)
     have g4 : dupE s (K : Int) = 0 := by unfold dupE; rw [Ls.out, g3, if_pos rfl, pushE_ok (by rw [Ls.out]; show sN + 1 ≤ 1024; have := Gs.out; omega)]
     have g5 : dupL s (K : Int) = s ++ [topW s (K : Int)] := by unfold dupL; rw [Ls.out, g3, if_pos rfl, pushL_ok (by rw [Ls.out]; show sN + 1 ≤ 1024; have := Gs.out; omega)]
     have g6 : popT s (K : Int) = (List.range K).map (nthW s) := popT_ok (by rw [Ls.out]; exact hs1) (by rw [Ls.out]; omega)
     have g7 : (s ++ [topW s (K : Int)]).length = sN + 1 := by rw [List.length_append, Ls.out]; rfl
     rw [g1, g2, g4, g5, g6, g7, List.length_map, List.length_range]
     rw [g5, g7] at Hp
     rw [g6, List.length_map, List.length_range] at Hy
     have m1 :  (K : Int) < (sN : Int) := by omega
     have m2 : (K : Int) ≤ (sN : Int) := by omega
     have htop : topW s (K : Int) = nthW s (K - 1) := by unfold topW nthW; rw [Int.toNat_natCast]; congr 1; omega
     have HPX := hid (show (s ++ [topW s (K : Int)])[sN]? = some (nthW s (K - 1)) by rw [List.getElem?_append_right (by have := Ls.out; omega), Ls.out, Nat.sub_self, htop]; rfl)
     have HYX := hid (show ((List.range K).map (nthW s))[K - 1]? = some (nthW s (K - 1)) by rw [List.getElem?_map, List.getElem?_range (by omega)]; rfl)
     have HTK := hid (show List.take sN (s ++ [topW s (K : Int)]) = s by rw [← Ls.out]; exact take_front s _)
     obtain ⟨i, hi⟩ : ∃ i : Nat, K - 1 = i := ⟨_, rfl⟩
     have e1 : (K : Int) - 1 = (i : Int) := by omega
     have ii0 : (0 : Int) ≤ (i : Int) := by omega
     have ii1 : (i : Int) < (K : Int) := by omega
     rw [hi] at HPX HYX
     have hcast : ((sN + 1 : Nat) : Int) = (sN : Int) + 1 := by omega
     clear hi htop g1 g2 g3 g4 g5 g6 g7 hgt heq hs1 kk0 kk1
     generalize nthW s i = y at *
     generalize (List.range K).map (nthW s) = yl at *
     generalize s ++ [topW s (K : Int)] = pl at *
     go_wp2_with fail
     refine (same_words _ _ _ s s Hd.out Hs.out).mono ?_
     rintro _ w12 ⟨rfl, q⟩
     replace Hs := hid (Hs.out.later q)
     replace Hd := hid (Hd.out.later q)
     replace Hp := hid (Hp.out.later q)
     replace Hy := hid (Hy.out.later q)
     replace QQ := hid (QQ.out.trans (q.mono QQ.out.size))
     clear q
     rw [show decide (s = s) = true by simp]
     have hpc : sN ≤ pc := by obtain ⟨_, _, e, h, _⟩ := Hp.out.shape; injection e with _ e1 e2; omega
     have KS := hid (fun z : Ext w12 => Ext.atW (same_words z.w (.slice pa sN pc) (.slice sa sN sc) s s (by have h := (Hp.out.later z.below).take sN (by omega); rw [HTK.out] at h; exact h) (Hs.out.later z.below)))
     rw [show decide (s = s) = true by simp] at KS
     obtain ⟨b1, rfl, _⟩ := Hp.out.at HPX.out
     obtain ⟨b2, rfl, _⟩ := Hy.out.at HYX.out
     have hC := fun z : Ext w12 => (Hp.out.later z.below).at4 HPX.out
     have hD := fun z : Ext w12 => (Hy.out.later z.below).at4 HYX.out
     have c0 := fun z : Ext w12 => (hC z).1
     have c1 := fun z : Ext w12 => (hC z).2.1
     have c2 := fun z : Ext w12 => (hC z).2.2.1
     have c3 := fun z : Ext w12 => (hC z).2.2.2
     have e0 := fun z : Ext w12 => (hD z).1
     have e1' := fun z : Ext w12 => (hD z).2.1
     have e2 := fun z : Ext w12 => (hD z).2.2.1
     have e3 := fun z : Ext w12 => (hD z).2.2.2
     have M1 : (sN : Int) < (sN : Int) + 1 := by omega
     have M2 : (sN : Int) ≤ (sN : Int) + 1 := by omega
     clear hC hD
     go_wp2_with fail
     refine wp_region_quietL (C := Grows w12) hmx (by kernel_rfl) (grows_refl w12) ?_
     repeat (go_big_quiet_step (first | (with_reducible exact KS.out _)))
     refine wpQuiet_nil ?_
     rintro _ ⟨z, rfl⟩
     have QE := hid (QQ.out.trans (z.below.mono QQ.out.size))
     clear c0 c1 c2 c3 e0 e1' e2 e3
     go_wp2_with fail
     go_ret
     exact ⟨rfl, QE.out⟩
theorem wpList_append_runG {P : Program} {w w' : World} {ops : Array Oper} {rest : List Oper} {o : Oper} {a : Act} {Q : Exit → Act → World → Prop}
  (hg : Region.wanted o (yielded ops a.tmps) = true) (s x : Operand) (t : TypeId) (hop : o.op = Op.call { callee := Callee.builtin Builtin.append, args := #[s, x], argTypes := #[t, t] })
  (v x0 v' : Value) (hs : a.eval s = v) (hx : a.eval x = x0) (hr : (Builtin.append_ #[t, t] o.type #[v, x0]).run P w = .ok v' w')
  (hK : wpList P ops Q rest (a.put o.dst v') w') : wpList P ops Q (o :: rest) a w := by
 refine BigFrame.wpList_want hg fun K hK' => ?_
 unfold Oper.wp execOp
 simp only [hop, resolve, invoke, builtin, Sem.run_bind, Sem.run_pure, Result.andThen_ok, List.map_toArray, List.map_cons, List.map_nil, hs, hx, hr]
 exact hK' _ _ hK
theorem WdsAt.drop {W : World} {a : Option Addr} {n cap : Nat} {l : List Nat} (h : WdsAt W (.slice a n cap) l) (k : Nat) (hk : k ≤ n) : WdsAt W (.slice (if cap = k then a else a.map (·.add (k * 4))) (n - k) (cap - k)) (l.drop k) := by
 obtain ⟨a', cap', h1, h2, h3, h4, h5⟩ := h
 injection h1 with e1 e2 e3
 subst e1 e3
 refine ⟨_, _, by rw [List.length_drop, e2], by rw [List.length_drop]; omega, by omega, fun x hx => h4 x (List.mem_of_mem_drop hx), fun i x hx => ?_⟩
 rw [List.getElem?_drop] at hx
 have hlt := (List.getElem?_eq_some_iff.1 hx).1
 obtain ⟨b, e, hb⟩ := h5 (k + i) x hx
 refine ⟨b.add (k * 4), by rw [if_neg (by omega), e]; rfl, ?_⟩
 rw [Addr.add_add, show k * 4 + i * 4 = (k + i) * 4 by omega]
 exact hb
theorem stackParts_any (W : World) (rv : Value) (zs : List Int) (hz : NumsAt W rv zs) (mv : Value) (ms : List Int) (hm : NumsAt W mv ms) (n : Int) (hn : I64 n) :
  Calls Try.prog 5 #[rv, mv, .int .i64 n] W fun e w' => e = .returned (.bool true) ∧ Below W.heap.size W w' := by
 have hmx : Try.prog.follows .mixedOrders = true := by kernel_rfl
 have HNI := hid hn
 have HZ := hid hz
 have HM := hid hm
 obtain ⟨ra, rc, rfl, _, _⟩ := hz.shape
 obtain ⟨ma, mc, rfl, _, _⟩ := hm.shape
 generalize zs.length = zn at *
 generalize ms.length = mn at *
 clear hz hm hn
 go_enter Try.func5, Try.ntmps5
 go_wp2_with fail
 refine (awake_any _).mono ?_
 rintro _ w1 ⟨rfl, q⟩
 replace HZ := hid (HZ.out.later q)
 replace HM := hid (HM.out.later q)
 have QQ := hid q
 clear q
 go_wp2_with fail
 refine (stack_any _ _ zs false 0 HZ.out (by unfold I64; omega)).mono ?_
 rintro _ w2 ⟨v, rfl, h, hall, q⟩
 replace HZ := hid (HZ.out.later q)
 replace HM := hid (HM.out.later q)
 replace QQ := hid (QQ.out.trans (q.mono QQ.out.size))
 clear q
 rw [stkW_raw] at h hall
 have h' := h.keys hall
 have As := hid hall
 have hln := rawW_length zs
 generalize rawW zs 20 = s at *
 clear h hall
 obtain ⟨sa, sc, rfl, _, _⟩ := h'.shape
 obtain ⟨sN, hsN⟩ : ∃ N, s.length = N := ⟨_, rfl⟩
 have Ls := hid hsN
 rw [hsN] at h' hln ⊢
 have Gs := hid hln
 clear hsN hln
 have Hs := hid h'
 clear h'
 go_wp2_with fail
 refine (stack_any _ _ ms false 0 HM.out (by unfold I64; omega)).mono ?_
 rintro _ w3 ⟨v, rfl, h, hall, q⟩
 replace HZ := hid (HZ.out.later q)
 replace HM := hid (HM.out.later q)
 replace Hs := hid (Hs.out.later q)
 replace QQ := hid (QQ.out.trans (q.mono QQ.out.size))
 clear q
 rw [stkW_raw] at h hall
 have h' := h.keys hall
 have Al := hid hall
 have hln := rawW_length ms
 generalize rawW ms 20 = l at *
 clear h hall
 obtain ⟨la, lc, rfl, _, _⟩ := h'.shape
 obtain ⟨lN, hlN⟩ : ∃ N, l.length = N := ⟨_, rfl⟩
 have Ll := hid hlN
 rw [hlN] at h' hln ⊢
 have Gl := hid hln
 clear hlN hln
 have Hl := hid h'
 clear h'
 clear HZ HM
 have i0 : (0 : Int) ≤ (lN : Int) := by omega
 have i1 : (lN : Int) ≤ 20 := by have := Gl.out; omega
 have j0 : (0 : Int) ≤ (sN : Int) := by omega
 have j1 : (sN : Int) ≤ 20 := by have := Gs.out; omega
 have PK := hid (pick_ret n HNI.out ((lN : Int) + 1) (by omega) (by omega))
 have rk := pickN_range n ((lN : Int) + 1) (by omega)
 generalize pickN n ((lN : Int) + 1) = pk at *
 obtain ⟨K, rfl⟩ : ∃ K : Nat, pk = (K : Int) := ⟨pk.toNat, by omega⟩
 have k0 : (0 : Int) ≤ (K : Int) := by omega
 have k1 : (K : Int) ≤ (lN : Int) := by omega
 have HKl := hid (show K ≤ lN by omega)
 clear rk
 have HSL := hid (show sN + lN ≤ 40 by have := Gs.out; have := Gl.out; omega)
 have hlc : lN ≤ lc := by obtain ⟨_, _, e, h, _⟩ := Hl.out.shape; injection e with _ e1 e2; try omega
 have hlc2 : lc ≤ 9223372036854775807 := by obtain ⟨_, _, e, _, h⟩ := Hl.out.shape; injection e with _ e1 e2; try omega
 have LCI := hid (And.intro hlc hlc2)
 clear hlc hlc2
 go_wp2_with fail
 refine (PK.out _).mono ?_
 rintro _ w4 ⟨rfl, q4⟩
 replace Hs := hid (Hs.out.later q4)
 replace Hl := hid (Hl.out.later q4)
 replace QQ := hid (QQ.out.trans (q4.mono QQ.out.size))
 clear q4
 go_wp2_with fail
 refine (push_any _ _ _ s l Hs.out Hl.out (by rw [Ls.out]; have := HSL.out; omega) (by rw [Ll.out]; have := HSL.out; omega)).mono ?_
 rintro _ w5 ⟨v, rfl, h, q⟩
 replace Hs := hid (Hs.out.later q)
 replace Hl := hid (Hl.out.later q)
 replace QQ := hid (QQ.out.trans (q.mono QQ.out.size))
 clear q
 rw [show pushE s l = 0 from pushE_ok (by rw [Ls.out, Ll.out]; have := HSL.out; omega)]
 rw [show pushL s l = s ++ l from pushL_ok (by rw [Ls.out, Ll.out]; have := HSL.out; omega)] at h
 obtain ⟨aa, ac, rfl, _, _⟩ := h.shape
 obtain ⟨aN, haN⟩ : ∃ N, (s ++ l).length = N := ⟨_, rfl⟩
 rw [haN] at h ⊢
 have La := hid haN
 have Va := hid (show aN = sN + lN by
  rw [← haN]
  first | (simp [Ls.out, Ll.out]; done) | (simp [Ls.out, Ll.out]; have := HKl.out; omega))
 clear haN
 have Ha := hid h
 clear h
 have htk := Hl.out.take K HKl.out
 have HTK := hid htk
 clear htk
 have hlt : (l.take K).length = K := by rw [List.length_take, Ll.out]; have := HKl.out; omega
 have LTK := hid hlt
 clear hlt
 have hKc : (K : Int) ≤ (lc : Int) := by have := LCI.out; have := HKl.out; omega
 go_wp2_with fail
 refine (push_any _ _ _ s (l.take K) Hs.out HTK.out (by rw [Ls.out]; have := HSL.out; omega) (by rw [LTK.out]; have := HSL.out; have := HKl.out; omega)).mono ?_
 rintro _ w6 ⟨v, rfl, h, q⟩
 replace Hs := hid (Hs.out.later q)
 replace Hl := hid (Hl.out.later q)
 replace Ha := hid (Ha.out.later q)
 replace HTK := hid (HTK.out.later q)
 replace QQ := hid (QQ.out.trans (q.mono QQ.out.size))
 clear q
 rw [show pushE s (l.take K) = 0 from pushE_ok (by rw [Ls.out, LTK.out]; have := HSL.out; have := HKl.out; omega)]
 rw [show pushL s (l.take K) = s ++ l.take K from pushL_ok (by rw [Ls.out, LTK.out]; have := HSL.out; have := HKl.out; omega)] at h
 obtain ⟨ba, bc, rfl, _, _⟩ := h.shape
 obtain ⟨bN, hbN⟩ : ∃ N, (s ++ l.take K).length = N := ⟨_, rfl⟩
 rw [hbN] at h ⊢
 have Lb := hid hbN
 have Vb := hid (show bN = sN + K by
  rw [← hbN]
  first | (simp [Ls.out, Ll.out]; done) | (simp [Ls.out, Ll.out]; have := HKl.out; omega))
 clear hbN
 have Hb := hid h
 clear h
 clear HTK
 have hdr := Hl.out.drop K HKl.out
 have HDR := hid hdr
 clear hdr
 have hld : (l.drop K).length = lN - K := by rw [List.length_drop, Ll.out]
 have LDR := hid hld
 clear hld
 obtain ⟨da, hda⟩ : ∃ da, (if lc = K then la else la.map (·.add (K * 4))) = da := ⟨_, rfl⟩
 rw [hda] at HDR
 go_wp2_with fail
 refine (push_any _ _ _ (s ++ l.take K) (l.drop K) Hb.out HDR.out (by rw [Lb.out, Vb.out]; have := HSL.out; have := HKl.out; omega) (by rw [LDR.out]; have := HSL.out; omega)).mono ?_
 rintro _ w7 ⟨v, rfl, h, q⟩
 replace Hs := hid (Hs.out.later q)
 replace Hl := hid (Hl.out.later q)
 replace Ha := hid (Ha.out.later q)
 replace Hb := hid (Hb.out.later q)
 replace HDR := hid (HDR.out.later q)
 replace QQ := hid (QQ.out.trans (q.mono QQ.out.size))
 clear q
 rw [show pushE (s ++ l.take K) (l.drop K) = 0 from pushE_ok (by rw [Lb.out, Vb.out, LDR.out]; have := HSL.out; have := HKl.out; omega)]
 rw [show pushL (s ++ l.take K) (l.drop K) = s ++ l from by rw [pushL_ok (by rw [Lb.out, Vb.out, LDR.out]; have := HSL.out; have := HKl.out; omega), List.append_assoc, List.take_append_drop]] at h
 obtain ⟨ca, cc, rfl, _, _⟩ := h.shape
 have hpl : (pushL (s ++ l.take K) (l.drop K)).length = aN := by rw [show pushL (s ++ l.take K) (l.drop K) = s ++ l from by rw [pushL_ok (by rw [Lb.out, Vb.out, LDR.out]; have := HSL.out; have := HKl.out; omega), List.append_assoc, List.take_append_drop], La.out]
 try rw [hpl] at h ⊢
 try rw [La.out] at h ⊢
 clear hpl hda
 have Hc := hid h
 clear h
 clear HDR Hb
 have haN : aN = sN + lN := Va.out
 have hle : (s ++ l).length ≤ 1024 := by rw [La.out]; have := HSL.out; omega
 have hle2 : lN ≤ (s ++ l).length := by rw [La.out]; omega
 have hle3 : lN - K ≤ (s ++ l).length := by rw [La.out]; omega
 have a1 := hid (show askN (s ++ l).length (lN : Int) 0 0 = 0 from ask_in hle (by omega) (by omega))
 have a2 := hid (show askN (s ++ l).length ((lN - K : Nat) : Int) 0 0 = 0 from ask_in hle (by omega) (by omega))
 have p1 := hid (show popL (s ++ l) (lN : Int) = s from by rw [popL_ok hle hle2, La.out, haN, Nat.add_sub_cancel, ← Ls.out]; exact take_front s l)
 have p2 := hid (show popT (s ++ l) (lN : Int) = (List.range lN).map (nthW (s ++ l)) from popT_ok hle hle2)
 have p3 := hid (show popL (s ++ l) ((lN - K : Nat) : Int) = s ++ l.take K from by
  rw [popL_ok hle hle3, La.out, haN, show sN + lN - (lN - K) = s.length + K by rw [Ls.out]; have := HKl.out; omega]
  rw [List.take_append, List.take_of_length_le (by omega), Nat.add_sub_cancel_left])
 have p4 := hid (show popT (s ++ l) ((lN - K : Nat) : Int) = (List.range (lN - K)).map (nthW (s ++ l)) from popT_ok hle hle3)
 have b1 : (s ++ l.take K).length ≤ 1024 := by rw [Lb.out, Vb.out]; have := HSL.out; have := HKl.out; omega
 have b2 : K ≤ (s ++ l.take K).length := by rw [Lb.out, Vb.out]; omega
 have a3 := hid (show askN (s ++ l.take K).length (K : Int) 0 0 = 0 from ask_in b1 (by omega) (by omega))
 have p5 := hid (show popL (s ++ l.take K) (K : Int) = s from by rw [popL_ok b1 b2, Lb.out, Vb.out, Nat.add_sub_cancel, ← Ls.out]; exact take_front s _)
 have p6 := hid (show popT (s ++ l.take K) (K : Int) = (List.range K).map (nthW (s ++ l.take K)) from popT_ok b1 b2)
 have p7 := hid (show (List.range lN).map (nthW (s ++ l)) = (List.range (lN - K)).map (nthW (s ++ l)) ++ (List.range K).map (nthW (s ++ l.take K)) from by
  have h := popT_parts (a := s ++ l) (m := lN - K) (k := K) (by rw [La.out, haN]; have := HKl.out; omega)
  rw [show lN - K + K = lN by have := HKl.out; omega] at h
  rw [h]
  have h3 := p3.out
  rw [popL_ok hle hle3] at h3
  rw [h3])
 clear haN hle hle2 hle3 b1 b2
 have hsub : (lN : Int) - (K : Int) = ((lN - K : Nat) : Int) := by have := HKl.out; omega
 go_wp2_with fail
 refine (pop_any _ _ (s ++ l) (lN : Int) Ha.out (by rw [La.out, Va.out]; have := HSL.out; have := HKl.out; omega)).mono ?_
 rintro _ w8 ⟨v, u, rfl, h, h2, q⟩
 replace Hs := hid (Hs.out.later q)
 replace Hl := hid (Hl.out.later q)
 replace Ha := hid (Ha.out.later q)
 replace Hc := hid (Hc.out.later q)
 replace QQ := hid (QQ.out.trans (q.mono QQ.out.size))
 clear q
 rw [a1.out]
 rw [p1.out] at h
 rw [p2.out] at h2
 obtain ⟨xa, xc, rfl, _, _⟩ := h.shape
 obtain ⟨pa, pc, rfl, _, _⟩ := h2.shape
 try rw [p1.out]
 try rw [p2.out]
 rw [Ls.out] at h ⊢
 rw [List.length_map, List.length_range] at h2 ⊢
 have Hx := hid h
 clear h
 have Hp := hid h2
 clear h2
 go_wp2_with fail
 refine (pop_any _ _ (s ++ l) ((lN - K : Nat) : Int) Ha.out (by rw [La.out, Va.out]; have := HSL.out; have := HKl.out; omega)).mono ?_
 rintro _ w9 ⟨v, u, rfl, h, h2, q⟩
 replace Hs := hid (Hs.out.later q)
 replace Hl := hid (Hl.out.later q)
 replace Ha := hid (Ha.out.later q)
 replace Hc := hid (Hc.out.later q)
 replace Hx := hid (Hx.out.later q)
 replace Hp := hid (Hp.out.later q)
 replace QQ := hid (QQ.out.trans (q.mono QQ.out.size))
 clear q
 rw [a2.out]
 rw [p3.out] at h
 rw [p4.out] at h2
 obtain ⟨ya, yc, rfl, _, _⟩ := h.shape
 obtain ⟨q1a, q1c, rfl, _, _⟩ := h2.shape
 try rw [p3.out]
 try rw [p4.out]
 rw [Lb.out] at h ⊢
 rw [List.length_map, List.length_range] at h2 ⊢
 have Hy := hid h
 clear h
 have Hq1 := hid h2
 clear h2
 go_wp2_with fail
 refine (pop_any _ _ (s ++ l.take K) (K : Int) Hy.out (by rw [Lb.out, Vb.out]; have := HSL.out; have := HKl.out; omega)).mono ?_
 rintro _ w10 ⟨v, u, rfl, h, h2, q⟩
 replace Hs := hid (Hs.out.later q)
 replace Hl := hid (Hl.out.later q)
 replace Ha := hid (Ha.out.later q)
 replace Hc := hid (Hc.out.later q)
 replace Hx := hid (Hx.out.later q)
 replace Hp := hid (Hp.out.later q)
 replace Hy := hid (Hy.out.later q)
 replace Hq1 := hid (Hq1.out.later q)
 replace QQ := hid (QQ.out.trans (q.mono QQ.out.size))
 clear q
 rw [a3.out]
 rw [p5.out] at h
 rw [p6.out] at h2
 obtain ⟨za, zc, rfl, _, _⟩ := h.shape
 obtain ⟨ra, rc, rfl, _, _⟩ := h2.shape
 try rw [p5.out]
 try rw [p6.out]
 rw [Ls.out] at h ⊢
 rw [List.length_map, List.length_range] at h2 ⊢
 have Hz := hid h
 clear h
 have Hr := hid h2
 clear h2
 clear a1 a2 a3 p1 p2 p3 p4 p5 p6 hsub Hy
 go_wp2_with fail
 refine (same_words _ _ _ (s ++ l) (s ++ l) Ha.out Hc.out).mono ?_
 rintro _ w11 ⟨rfl, q⟩
 replace Hs := hid (Hs.out.later q)
 replace Hl := hid (Hl.out.later q)
 replace Ha := hid (Ha.out.later q)
 replace Hc := hid (Hc.out.later q)
 replace Hx := hid (Hx.out.later q)
 replace Hp := hid (Hp.out.later q)
 replace Hq1 := hid (Hq1.out.later q)
 replace Hz := hid (Hz.out.later q)
 replace Hr := hid (Hr.out.later q)
 replace QQ := hid (QQ.out.trans (q.mono QQ.out.size))
 clear q
 rw [show decide ((s ++ l) = (s ++ l)) = true by simp]
 clear Ha Hc
 go_wp2_with fail
 refine (same_words _ _ _ s s Hx.out Hz.out).mono ?_
 rintro _ w12 ⟨rfl, q⟩
 replace Hs := hid (Hs.out.later q)
 replace Hl := hid (Hl.out.later q)
 replace Hx := hid (Hx.out.later q)
 replace Hp := hid (Hp.out.later q)
 replace Hq1 := hid (Hq1.out.later q)
 replace Hz := hid (Hz.out.later q)
 replace Hr := hid (Hr.out.later q)
 replace QQ := hid (QQ.out.trans (q.mono QQ.out.size))
 clear q
 rw [show decide (s = s) = true by simp]
 clear Hx Hz
 rw [p7.out] at Hp
 generalize (List.range (lN - K)).map (nthW (s ++ l)) = ql at *
 generalize (List.range K).map (nthW (s ++ l.take K)) = rl at *
 clear p7
 have hql : ql.length = lN - K := by obtain ⟨_, _, e, _, _⟩ := Hq1.out.shape; injection e with _ e1 e2; exact e1.symm
 have hrl : rl.length = K := by obtain ⟨_, _, e, _, _⟩ := Hr.out.shape; injection e with _ e1 e2; exact e1.symm
 obtain ⟨v1, w1', happ1, hrow1, _, hb1⟩ := append_words w12 w12.heap.size (.slice none 0 0) [] (WdRow.nil _ _) (Nat.le_refl _) _ ql Hq1.out (by rw [hql]; have := HSL.out; show 0 + _ ≤ _; omega)
 obtain ⟨v2, w2', happ2, hrow2, _, hb2⟩ := append_words w1' w12.heap.size v1 ([] ++ ql) hrow1 hb1.size _ rl (Hr.out.later hb1) (by rw [hrl, List.nil_append, hql]; have := HSL.out; have := HKl.out; omega)
 have hb := hb1.trans hb2
 have AQ := hid (show ∀ x ∈ ([] ++ ql) ++ rl, W256 x from fun x hx => by
  rcases List.mem_append.1 hx with hx | hx
  ·exact Hq1.out.all x (by simpa using hx)
  ·exact Hr.out.all x hx)
 have hk2 := hrow2.keys AQ.out
 rw [List.nil_append] at hk2
 clear hql hrl hrow1 hrow2 hb1 hb2 AQ
 clear Hq1 Hr
 have Hqr := hid hk2
 clear hk2
 replace Hs := hid (Hs.out.later hb)
 replace Hl := hid (Hl.out.later hb)
 replace Hp := hid (Hp.out.later hb)
 replace QQ := hid (QQ.out.trans (hb.mono QQ.out.size))
 clear hb
 go_wp2_with (first | (at_builtin; refine wpList_append_runG (by first | rfl | (simp [Region.wanted, yielded]; done)) (.const (.slice none 0 0)) (.tmp 125) 27 rfl _ _ _ rfl rfl happ1 ?_) | (at_builtin; refine wpList_append_runG (by first | rfl | (simp [Region.wanted, yielded]; done)) (.tmp 126) (.tmp 127) 27 rfl _ _ _ rfl rfl happ2 ?_))
 refine (same_words _ _ _ (ql ++ rl) (ql ++ rl) Hp.out Hqr.out).mono ?_
 rintro _ w13 ⟨rfl, q⟩
 replace Hs := hid (Hs.out.later q)
 replace Hl := hid (Hl.out.later q)
 replace Hp := hid (Hp.out.later q)
 replace Hqr := hid (Hqr.out.later q)
 replace QQ := hid (QQ.out.trans (q.mono QQ.out.size))
 clear q
 rw [show decide ((ql ++ rl) = (ql ++ rl)) = true by simp]
 clear Hp Hqr happ1 happ2
 have HSW := hid (show ∀ (X : World), Below w13.heap.size w13 X → WdsAt X (.slice sa sN sc) s from fun X hX => Hs.out.later hX)
 go_wp2_with fail
 go_loopw [26, 27] (fun tv i wr => ∃ (m : Nat) (t : List Nat), i = .int .i64 ((m : Int) + 1) ∧ (m = 0 ∨ m + 1 ≤ sN) ∧ WdsAt wr tv t ∧ TurnW s m t ∧ Below w13.heap.size w13 wr) (fun _ i _ => 21 - (intOf i).toNat)
 case atStart => exact ⟨0, s, rfl, .inl rfl, Hs.out, TurnW.start s, Below.refl _ _⟩
 case round =>
  obtain ⟨m, t, rfl, hm, htv, htn, hq⟩ := hrel
  have hsh := htv.shape
  rw [htn.len, Ls.out] at hsh
  obtain ⟨ta, tc, rfl, _, _⟩ := hsh
  have HQ := hid hq
  have HT := hid htv
  have HTN := hid htn
  have HMM := hid hm
  clear hq htv htn hm
  by_cases hlt : m + 1 < sN
  ·have hltI : (m : Int) + 1 < (sN : Int) := by omega
   have m0 : (0 : Int) ≤ (m : Int) := by omega
   have HL := hid hlt
   obtain ⟨h1, h2⟩ := HTN.out.next (by rw [Ls.out]; have := Gs.out; omega) (by rw [Ls.out]; exact hlt)
   have A0 := hid h1
   have T2 := hid h2
   have hcast : ((m + 1 : Nat) : Int) = (m : Int) + 1 := by omega
   rw [hcast] at A0 T2
   clear h1 h2 hlt hcast
   go_wp2_with fail
   refine (swap_any _ _ t ((m : Int) + 1) HT.out (by rw [HTN.out.len, Ls.out]; have := Gs.out; omega)).mono ?_
   rintro _ w2 ⟨v, rfl, h, q⟩
   rw [A0.out]
   have hsl : (swpL t ((m : Int) + 1)).length = sN := by rw [swpL_length, HTN.out.len, Ls.out]
   obtain ⟨ua, uc, rfl, _, _⟩ := h.shape
   rw [hsl] at h ⊢
   have HU := hid h
   have Q2 := hid (HQ.out.trans (q.mono HQ.out.size))
   clear h q hsl
   go_wp2_with fail
   go_roundw
   case rel => exact ⟨m + 1, _, by simp, .inr (by have := HL.out; omega), HU.out, T2.out, Q2.out⟩
   case measure => have := HL.out; have := Gs.out; simp [intOf]; omega
  ·have hltI : ¬ (m : Int) + 1 < (sN : Int) := by omega
   have HTD := hid (show ∀ i, i < sN → t[i]? = s[(i + 1) % sN]? from fun i hi => by
    have hm : m = s.length - 1 := by rw [Ls.out]; rcases HMM.out with h | h <;> omega
    have := (hm ▸ HTN.out).done (i := i) (by rw [Ls.out]; exact hi)
    rw [Ls.out] at this
    exact this)
   clear hlt
   obtain ⟨wq, hwq⟩ : ∃ wq, wq = wr := ⟨_, rfl⟩
   subst hwq
   have q9 := HQ.out
   replace Hs := hid (Hs.out.later q9)
   replace Hl := hid (Hl.out.later q9)
   replace QQ := hid (QQ.out.trans (q9.mono QQ.out.size))
   clear q9
   go_wp2_with fail
   go_loopw [30] (fun i wy => ∃ j : Nat, j ≤ sN ∧ i = .int .i64 (j : Int) ∧ Below wq.heap.size wq wy) (fun i _ => sN - (intOf i).toNat)
   case atStart => exact ⟨0, by omega, rfl, Below.refl _ _⟩
   case round =>
    obtain ⟨j, hj, rfl, hq2⟩ := hrel
    have HQ2 := hid hq2
    clear hq2
    by_cases hlt : j < sN
    ·have hltI : (j : Int) < (sN : Int) := by omega
     have jj0 : (0 : Int) ≤ (j : Int) := by omega
     have HJ := hid hlt
     have hs0 : ¬ (sN : Int) = 0 := by omega
     obtain ⟨i, hi⟩ : ∃ i : Nat, (j + 1) % sN = i := ⟨_, rfl⟩
     have hiN : i < sN := by rw [← hi]; exact Nat.mod_lt _ (by omega)
     have e1 : ((j : Int) + 1).tmod (sN : Int) = (i : Int) := by
      rw [Int.tmod_eq_emod_of_nonneg (by omega), ← hi]
      rfl
     have ii0 : (0 : Int) ≤ (i : Int) := by omega
     have ii1 : (i : Int) < (sN : Int) := by omega
     have hx : t[j]? = s[i]? := by rw [HTD.out j hlt, hi]
     obtain ⟨x, hy⟩ : ∃ x, s[i]? = some x := ⟨_, List.getElem?_eq_getElem (by rw [Ls.out]; exact hiN)⟩
     rw [hy] at hx
     have hS2 := Hs.out.later HQ2.out
     have hT2 := (HT.out.later HQ2.out)
     obtain ⟨b1, rfl, _⟩ := HT.out.at hx
     obtain ⟨b2, rfl, _⟩ := Hs.out.at hy
     obtain ⟨c0, c1, c2, c3⟩ := hS2.at4 hy
     have Z0 := Has.new wr 25 #[.int .u64 0, .int .u64 0, .int .u64 0, .int .u64 0]
     have z0 := Z0.cell 0 _ rfl
     have z1 := Z0.cell 1 _ rfl
     have z2 := Z0.cell 2 _ rfl
     have z3 := Z0.cell 3 _ rfl
     have y0 := Z0.frozen 0
     have y1 := Z0.frozen 1
     have y2 := Z0.frozen 2
     have y3 := Z0.frozen 3
     have NB := Has.new wr 25 #[.int .u64 (lim x 0), .int .u64 (lim x 1), .int .u64 (lim x 2), .int .u64 (lim x 3)]
     have qn := newA wr (.cells #[.int .u64 (lim x 0), .int .u64 (lim x 1), .int .u64 (lim x 2), .int .u64 (lim x 3)] 25)
     have Q3 := hid (HQ2.out.trans (qn.mono HQ2.out.size))
     have HNB := hid NB
     have HTX := hid (And.intro hx (hT2.later qn))
     obtain ⟨w4, hw4⟩ : ∃ w4, wr.alloc (.cells #[.int .u64 (lim x 0), .int .u64 (lim x 1), .int .u64 (lim x 2), .int .u64 (lim x 3)] 25) = w4 := ⟨_, rfl⟩
     rw [hw4] at Q3 HNB HTX
     have hC := fun z : Ext w4 => (HTX.out.2.later z.below).at4 HTX.out.1
     have hD := fun z : Ext w4 => HNB.out.later z.below
     have d0 := fun z : Ext w4 => (hC z).1
     have d1 := fun z : Ext w4 => (hC z).2.1
     have d2 := fun z : Ext w4 => (hC z).2.2.1
     have d3 := fun z : Ext w4 => (hC z).2.2.2
     have e0 := fun z : Ext w4 => (hD z).cell 0 _ rfl
     have e1' := fun z : Ext w4 => (hD z).cell 1 _ rfl
     have e2 := fun z : Ext w4 => (hD z).cell 2 _ rfl
     have e3 := fun z : Ext w4 => (hD z).cell 3 _ rfl
     clear hlt hj hi hiN hx hy hS2 hT2 Z0 NB qn hC hD
     generalize lim x 0 = x0 at *
     generalize lim x 1 = x1 at *
     generalize lim x 2 = x2 at *
     generalize lim x 3 = x3 at *
     go_wp2_with fail
     try rw [hw4]
     clear hw4 c0 c1 c2 c3 z0 z1 z2 z3 y0 y1 y2 y3
     refine wp_region_quietL (C := Grows w4) hmx (by kernel_rfl) (grows_refl w4) ?_
     repeat (go_big_quiet_step (fail))
     refine wpQuiet_nil ?_
     rintro _ ⟨z, rfl⟩
     have HE := hid (Q3.out.trans (z.below.mono Q3.out.size))
     clear d0 d1 d2 d3 e0 e1' e2 e3
     go_wp2_with fail
     go_roundw
     case rel => exact ⟨j + 1, by have := HJ.out; omega, by simp, HE.out⟩
     case measure => have := HJ.out; simp [intOf]; omega
    ·obtain rfl : j = sN := by omega
     have hkk : ¬ (j : Int) < (j : Int) := by omega
     have QF := QQ.out.trans (HQ2.out.mono QQ.out.size)
     go_wp2_with fail
     go_ret
     exact ⟨rfl, QF⟩
end Go.Proofs.Ythfghmodfpddpaa
