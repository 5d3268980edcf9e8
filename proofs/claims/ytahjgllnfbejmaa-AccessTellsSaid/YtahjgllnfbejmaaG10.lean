/- Part. -/
import Derived.Test.YtahjgllnfbejmaaG09
import Derived.Test.YtahjgllnfbejmaaG08
import Derived.Test.YtahjgllnfbejmaaG04
import Derived.Test.YtahjgllnfbejmaaG07
import Derived.Test.YtahjgllnfbejmaaG06
set_option maxRecDepth 100000
set_option maxHeartbeats 16000000
namespace Go.Proofs.Ytahjgllnfbejmaa
open Go Go.RowKit
attribute [local go_sem] Oper.semAt_some Grows wide_fn
theorem may_of {l : List Ky} (h : l.any strayK = false) {k : Nat} {y : Ky} (hy : l[k]? = some y) : (y.slot || decide (y.key = 0)) = true := by
 have h1 := List.any_eq_false.1 h y (List.mem_of_getElem? hy)
 unfold strayK at h1
 cases hs : y.slot
 ·rw [hs] at h1
  by_cases hk : y.key = 0
  ·simp [hk]
  ·simp [hk] at h1
 ·rfl
theorem rmake_any (W : World) (rv sv : Value) (r s : List Ky) (hr : KeysAt W rv r) (hs : KeysAt W sv s) (hm1 : r.any strayK = false) (hm2 : s.any strayK = false) (hlr : r.length ≤ 200) (hls : s.length ≤ 200) :
  Calls Try.prog 12 #[rv, sv] W (SetsP W (setL r) (setL s) 0) := by
 have hB := (Has.new W 24 #[.slice none 0 0, .slice none 0 0]).alloc (.cells #[rv, sv] 22)
 have hP := Has.new (W.alloc (.cells #[.slice none 0 0, .slice none 0 0] 24)) 22 #[rv, sv]
 simp only [World.size_alloc] at hP
 have hq0 := (newA W (.cells #[.slice none 0 0, .slice none 0 0] 24)).alloc (by simp) (.cells #[rv, sv] 22)
 obtain ⟨ra, rc, rfl, _, hrm⟩ := hr.shape
 obtain ⟨sa, sc, rfl, _, hsm⟩ := hs.shape
 obtain ⟨V, hV⟩ : ∃ V, (W.alloc (.cells #[.slice none 0 0, .slice none 0 0] 24)).alloc (.cells #[.slice ra r.length rc, .slice sa s.length sc] 22) = V := ⟨_, rfl⟩
 rw [hV] at hB hP hq0
 have HR := hid (hr.later hq0)
 have HS := hid (hs.later hq0)
 have Q := hid hq0
 have HB := hid hB
 have HP := hid hP
 have HM1 := hid hm1
 have HM2 := hid hm2
 have LR := hid (show (setL r).length ≤ 200 by have := setL_take_len r r.length; rw [List.take_length] at this; omega)
 have LS := hid (show (setL s).length ≤ 200 by have := setL_take_len s s.length; rw [List.take_length] at this; omega)
 have S1 := hid (fun (X : World) (hX : Below V.heap.size V X) => rset_any X _ r (HR.out.later hX) (by omega))
 have S2 := hid (fun (X : World) (hX : Below V.heap.size V X) => rset_any X _ s (HS.out.later hX) (by omega))
 have OR := hid (setL_ok hr.all)
 have OS := hid (setL_ok hs.all)
 obtain ⟨rn, hrn⟩ : ∃ rn, r.length = rn := ⟨_, rfl⟩
 obtain ⟨sn, hsn⟩ : ∃ sn, s.length = sn := ⟨_, rfl⟩
 have HRN := hid (And.intro hrn hlr)
 have HSN := hid (And.intro hsn hls)
 rw [hrn] at HP HR S1 hV ⊢
 rw [hsn] at HP HS S2 hV ⊢
 clear hr hs hlr hls hq0 hB hP hrm hsm hm1 hm2 hrn hsn
 go_enter Try.func12, Try.ntmps12
 go_wp2_with fail
 clear hV
 go_loopw [14] (fun jv wr => ∃ j : Int, jv = .int .i64 j ∧ (j = 0 ∨ j = 1 ∨ j = 2) ∧ Below V.heap.size V wr) (fun jv _ => 2 - (intOf jv).toNat)
 case atStart => exact ⟨0, rfl, .inl rfl, Below.refl _ _⟩
 case round =>
  obtain ⟨j, rfl, hj3, hq⟩ := hrel
  have HQ := hid hq
  obtain ⟨V1, hV1⟩ : ∃ V1, V1 = wr := ⟨_, rfl⟩
  subst hV1
  clear hq
  rcases hj3 with rfl | rfl | rfl
  ·have c := (HP.out.later HQ.out).cell 0 _ rfl
   go_wp2_with fail
   clear c
   go_loopw [8] (fun iv wq => ∃ k : Nat, iv = .int .i64 (k : Int) ∧ k ≤ rn ∧ Below V1.heap.size V1 wq) (fun iv _ => rn - (intOf iv).toNat)
   case atStart => exact ⟨0, rfl, by omega, Below.refl _ _⟩
   case round =>
    obtain ⟨k, rfl, hk, hq⟩ := hrel
    have HQ1 := hid (HQ.out.trans (hq.mono HQ.out.size))
    have HQ2 := hid hq
    have HK := hid hk
    clear hq
    by_cases hkn : k < rn
    ·have hknI : (k : Int) < (rn : Int) := by omega
     have hk0 : (0 : Int) ≤ (k : Int) := by omega
     have hkb : (k : Int) ≤ 9223372036854775806 := by have := HRN.out; omega
     obtain ⟨y, hy⟩ : ∃ y, r[k]? = some y := ⟨_, List.getElem?_eq_getElem (by have := HRN.out; omega)⟩
     have hlk := HR.out.later HQ1.out
     obtain ⟨a', cap', e', _, _, hoks, hall⟩ := hlk
     injection e' with e1 e2 e3
     subst e1 e3
     obtain ⟨b, rfl, ay⟩ := hall k y hy
     have LY := hid (KyIn.load ay)
     have RM := hid (rmay_any wr y (hoks y (List.mem_of_getElem? hy)))
     rw [may_of HM1.out hy] at RM
     have HKK := hid hkn
     clear hkn hk ay hy hoks hall e2
     go_wp2_with (first | (refine wpList_load_known rfl _ (.tmp 26) rfl _ rfl _ LY.out ?_) | fail)
     refine RM.out.mono ?_
     rintro _ w1 ⟨rfl, hb1⟩
     have QN := hid (HQ2.out.trans (hb1.mono HQ2.out.size))
     clear hb1 RM LY
     go_wp2_with fail
     go_roundw
     case rel => exact ⟨k + 1, by simp, by have := HKK.out; omega, QN.out⟩
     case measure => have := HKK.out; simp [intOf]; omega
    ·obtain rfl : k = rn := by have := HK.out; omega
     have hnn : ¬ (k : Int) < (k : Int) := by omega
     go_wp2_with fail
     go_roundw
     case rel => exact ⟨1, rfl, by simp, HQ1.out⟩
     case measure => simp [intOf]
  ·have c := (HP.out.later HQ.out).cell 1 _ rfl
   go_wp2_with fail
   clear c
   go_loopw [8] (fun iv wq => ∃ k : Nat, iv = .int .i64 (k : Int) ∧ k ≤ sn ∧ Below V1.heap.size V1 wq) (fun iv _ => sn - (intOf iv).toNat)
   case atStart => exact ⟨0, rfl, by omega, Below.refl _ _⟩
   case round =>
    obtain ⟨k, rfl, hk, hq⟩ := hrel
    have HQ1 := hid (HQ.out.trans (hq.mono HQ.out.size))
    have HQ2 := hid hq
    have HK := hid hk
    clear hq
    by_cases hkn : k < sn
    ·have hknI : (k : Int) < (sn : Int) := by omega
     have hk0 : (0 : Int) ≤ (k : Int) := by omega
     have hkb : (k : Int) ≤ 9223372036854775806 := by have := HSN.out; omega
     obtain ⟨y, hy⟩ : ∃ y, s[k]? = some y := ⟨_, List.getElem?_eq_getElem (by have := HSN.out; omega)⟩
     have hlk := HS.out.later HQ1.out
     obtain ⟨a', cap', e', _, _, hoks, hall⟩ := hlk
     injection e' with e1 e2 e3
     subst e1 e3
     obtain ⟨b, rfl, ay⟩ := hall k y hy
     have LY := hid (KyIn.load ay)
     have RM := hid (rmay_any wr y (hoks y (List.mem_of_getElem? hy)))
     rw [may_of HM2.out hy] at RM
     have HKK := hid hkn
     clear hkn hk ay hy hoks hall e2
     go_wp2_with (first | (refine wpList_load_known rfl _ (.tmp 26) rfl _ rfl _ LY.out ?_) | fail)
     refine RM.out.mono ?_
     rintro _ w1 ⟨rfl, hb1⟩
     have QN := hid (HQ2.out.trans (hb1.mono HQ2.out.size))
     clear hb1 RM LY
     go_wp2_with fail
     go_roundw
     case rel => exact ⟨k + 1, by simp, by have := HKK.out; omega, QN.out⟩
     case measure => have := HKK.out; simp [intOf]; omega
    ·obtain rfl : k = sn := by have := HK.out; omega
     have hnn : ¬ (k : Int) < (k : Int) := by omega
     go_wp2_with fail
     go_roundw
     case rel => exact ⟨2, rfl, by simp, HQ1.out⟩
     case measure => simp [intOf]
  ·go_wp2_with fail
   refine (S1.out _ HQ.out).mono ?_
   rintro _ w3 ⟨v3, rfl, hr3, hb3⟩
   have hk3 := hr3.keys OR.out
   have hb13 := HQ.out.trans (hb3.mono HQ.out.size)
   obtain ⟨a3, c3, hv3, _⟩ := hk3.shape
   subst hv3
   have K3 := hid hk3
   have QB3 := hid hb13
   clear hk3 hb3 hr3 hb13
   generalize hn3 : (setL r).length = n3 at *
   go_wp2_with fail
   refine (S2.out w3 QB3.out).mono ?_
   rintro _ w4 ⟨v4, rfl, hr4, hb4⟩
   have hk4 := hr4.keys OS.out
   have hb14 := QB3.out.trans (hb4.mono QB3.out.size)
   obtain ⟨a4, c4, hv4, _⟩ := hk4.shape
   subst hv4
   have K34 := hid (K3.out.later hb4)
   have K4 := hid hk4
   clear hk4 hb4 hr4
   generalize hn4 : (setL s).length = n4 at *
   obtain ⟨W5, hW5, hBB, hqq⟩ := newBox w4 24 #[.slice a3 n3 c3, .slice a4 n4 c4]
   have hI3 : ¬ (200 : Int) < (n3 : Int) := by have := LR.out; omega
   have hI4 : ¬ (200 : Int) < (n4 : Int) := by have := LS.out; omega
   have Q5 := hid (hb14.trans (hqq.mono hb14.size))
   have d0 := hBB.cell 0 _ rfl
   have d1 := hBB.cell 1 _ rfl
   have b7 := HB.out.later Q5.out
   have z0 := b7.cell 0 _ rfl
   have z1 := b7.cell 1 _ rfl
   have f0 := b7.frozen 0
   have f1 := b7.frozen 1
   have hF := hid ((b7.set 0 (.slice a3 n3 c3)).set 1 (.slice a4 n4 c4))
   have QF := hid (((Q.out.trans (Q5.out.mono Q.out.size)).setCell (p := ⟨W.heap.size, 0, none⟩) (Nat.le_refl _) (.slice a3 n3 c3)).setCell (p := ⟨W.heap.size, 1, none⟩) (Nat.le_refl _) (.slice a4 n4 c4))
   have b7s : Has (W5.setCell ⟨W.heap.size, 0, none⟩ (.slice a3 n3 c3)) W.heap.size 24 #[.slice a3 n3 c3, .slice none 0 0] := b7.set 0 _
   have KA2 := hid (((K34.out.later hqq).away b7 0 (.slice a3 n3 c3)).away b7s 1 (.slice a4 n4 c4))
   have KB2 := hid (((K4.out.later hqq).away b7 0 (.slice a3 n3 c3)).away b7s 1 (.slice a4 n4 c4))
   have HLt := hid HB.out.lt
   clear b7s b7 hqq hb14 hBB
   go_wp2_with fail
   refine bodyPost_ret (results_setsB rfl rfl hF.out) rfl ?_
   exact ⟨_, _, rfl, KA2.out, KB2.out, QF.out⟩
theorem may_stray (y : Ky) : (y.slot || decide (y.key = 0)) = !strayK y := by
 unfold strayK
 cases y.slot <;> by_cases h : y.key = 0 <;> simp [h]
def okTo (l : List Ky) (k : Nat) : Prop := (∀ (j : Nat) (y : Ky), j < k → l[j]? = some y → strayK y = false) ∧ ∀ (j : Nat) (x y : Ky), j + 1 < k → l[j]? = some x → l[j + 1]? = some y → Kl x y
theorem okTo.next {l : List Ky} {k : Nat} (h : okTo l k) {y : Ky} (hy : l[k]? = some y) (hs : strayK y = false) (ho : ∀ m x, m + 1 = k → l[m]? = some x → Kl x y) : okTo l (k + 1) := by
 refine ⟨fun j z hj hz => ?_, fun j x z hj hx hz => ?_⟩
 ·by_cases hjk : j < k
  ·exact h.1 j z hjk hz
  ·obtain rfl : j = k := by omega
   rw [hy] at hz
   injection hz with hz
   subst hz
   exact hs
 ·by_cases hjk : j + 1 < k
  ·exact h.2 j x z hjk hx hz
  ·have e : j + 1 = k := by omega
   rw [e, hy] at hz
   injection hz with hz
   subst hz
   exact ho j x e hx
theorem okTo.all {l : List Ky} (h : okTo l l.length) : fitB l = decide (l.length ≤ 200) := by
 have h1 : kupB l = true := (kupB_iff l).2 (kup_at.2 fun j x y hx hy => h.2 j x y (List.getElem?_eq_some_iff.1 hy).1 hx hy)
 have h2 : l.any strayK = false := by
  refine Bool.eq_false_iff.2 fun ha => ?_
  obtain ⟨x, hx, hp⟩ := List.any_eq_true.1 ha
  obtain ⟨j, hj⟩ := List.mem_iff_getElem?.1 hx
  have := h.1 j x (List.getElem?_eq_some_iff.1 hj).1 hj
  rw [this] at hp
  cases hp
 unfold fitB
 rw [h1, h2]
 simp
theorem fit_up {l : List Ky} {m : Nat} {x y : Ky} (hx : l[m]? = some x) (hy : l[m + 1]? = some y) (h : ¬ Kl x y) : fitB l = false := by
 have : kupB l = false := kupB_false (fun hr => h (kup_at.1 hr m x y hx hy))
 unfold fitB
 rw [this]
 simp
theorem rright_any (W : World) (sv : Value) (l : List Ky) (hs : KeysAt W sv l) :
  Calls Try.prog 34 #[sv] W fun e w' => e = .returned (.bool (fitB l)) ∧ Below W.heap.size W w' := by
 have hmx : Try.prog.follows .mixedOrders = true := by kernel_rfl
 obtain ⟨a, cap, rfl, hnc, hcm⟩ := hs.shape
 have HS := hid hs
 obtain ⟨n, hn⟩ : ∃ n, l.length = n := ⟨_, rfl⟩
 rw [hn] at HS hnc ⊢
 have HN := hid hn
 have hlc := hid (Nat.le_trans hnc hcm)
 have HALL := hid (show okTo l n → fitB l = decide (n ≤ 200) from fun h => by subst hn; exact h.all)
 have HNO := hid (show ∀ k y, l[k]? = some y → strayK y = true → fitB l = false from fun k y h1 h2 => fitB_no h1 h2)
 have HUP := hid (show ∀ m x y, l[m]? = some x → l[m + 1]? = some y → ¬ Kl x y → fitB l = false from fun m x y h1 h2 h3 => fit_up h1 h2 h3)
 obtain ⟨res, hres⟩ : ∃ b, fitB l = b := ⟨_, rfl⟩
 rw [hres] at HALL HNO HUP ⊢
 clear hs hnc hcm hn hres
 go_enter Try.func34, Try.ntmps34
 go_wp2_with fail
 go_loopw [3] (fun iv wr => ∃ k : Nat, iv = .int .i64 (k : Int) ∧ k ≤ n ∧ okTo l k ∧ Below W.heap.size W wr) (fun iv _ => n - (intOf iv).toNat)
 case atStart => exact ⟨0, rfl, by omega, ⟨fun j y h => by omega, fun j x y h => by omega⟩, Below.refl _ _⟩
 case round =>
  obtain ⟨k, rfl, hk, hok, hq⟩ := hrel
  obtain ⟨V1, hV1⟩ : ∃ V1, V1 = wr := ⟨_, rfl⟩
  subst hV1
  have HQ := hid hq
  have HK := hid hk
  have HOK := hid hok
  clear hq hok
  by_cases hkn : k < n
  ·have hknI : (k : Int) < (n : Int) := by omega
   have hk0 : (0 : Int) ≤ (k : Int) := by omega
   have hkb : (k : Int) ≤ 9223372036854775806 := by have := hlc.out; omega
   obtain ⟨y, hy⟩ : ∃ y, l[k]? = some y := ⟨_, List.getElem?_eq_getElem (by have := HN.out; omega)⟩
   have HY := hid hy
   obtain ⟨b, rfl, ay⟩ := (HS.out.later HQ.out).at hy
   have LY := hid (show ∀ z : World, Grows V1 z → (loadVar 31 (b.add (k * 25))).run Try.prog z = .ok (.agg (kyC y)) z from fun z hz => by obtain ⟨q, rfl⟩ := hz; exact (ay.later q.below).load)
   have M1 := hid (fun z : Ext V1 => Ext.atK (rmay_any z.w y (HS.out.ok hy)))
   rw [may_stray] at M1
   have HKK := hid hkn
   obtain ⟨sy, hsy⟩ : ∃ b, strayK y = b := ⟨_, rfl⟩
   have HSY := hid hsy
   rw [hsy] at M1
   clear hsy
   cases sy
   ·by_cases hk1 : k = 0
    ·subst hk1
     have HNX := hid (show okTo l 1 from HOK.out.next HY.out HSY.out (fun m x e => by omega))
     generalize kyC y = cy at *
     clear hkn hk ay hy hknI hk0 hkb
     have hknI : (0 : Int) < (n : Int) := by have := HKK.out; omega
     go_wp2_with fail
     refine wp_region_quietL (C := Grows V1) hmx (by kernel_rfl) (grows_refl V1) ?_
     repeat (first | (with_reducible refine wpQuiet_load rfl 31 _ rfl _ rfl _ LY.out ?_; simp only [Act.put, sT, sS, sZ]) | (go_big_quiet_step (first | (with_reducible exact M1.out _))))
     refine wpQuiet_nil ?_
     rintro _ ⟨z, rfl⟩
     have HE := hid (HQ.out.trans (z.below.mono HQ.out.size))
     clear LY M1
     go_wp2_with fail
     go_roundw
     case rel => exact ⟨1, rfl, by have := HKK.out; omega, HNX.out, HE.out⟩
     case measure => have := HKK.out; simp [intOf]; omega
    ·obtain ⟨m, hm⟩ : ∃ m, k = m + 1 := ⟨k - 1, by omega⟩
     have HM := hid hm
     have hm1 : (k : Int) - 1 = (m : Int) := by omega
     have hkp : (0 : Int) < (k : Int) := by omega
     have hkn1 : 0 < k := by omega
     have hkn2 : decide (0 < k) = true := decide_eq_true hkn1
     have hm2 : (m : Int) < (n : Int) := by omega
     obtain ⟨x, hx⟩ : ∃ x, l[m]? = some x := ⟨_, List.getElem?_eq_getElem (by have := HN.out; omega)⟩
     have HX := hid hx
     have ax := (HS.out.later HQ.out).in hx
     have LX := hid (show ∀ z : World, Grows V1 z → (loadVar 31 (b.add (m * 25))).run Try.prog z = .ok (.agg (kyC x)) z from fun z hz => by obtain ⟨q, rfl⟩ := hz; exact (ax.later q.below).load)
     have K3 := hid (fun z : Ext V1 => Ext.atK (rkorder_any z.w x y (HS.out.ok hx) (HS.out.ok hy)))
     have hcge := hid (show 0 ≤ kcmp x y ↔ ¬ Kl x y from by unfold Kl; omega)
     generalize kcmp x y = c at *
     generalize kyC x = cx at *
     generalize kyC y = cy at *
     clear hkn hk ay hy ax hx hm hk1
     by_cases hc0 : 0 ≤ c
     ·go_wp2_with fail
      refine wp_region_quietL (C := Grows V1) hmx (by kernel_rfl) (grows_refl V1) ?_
      repeat (first | (with_reducible refine wpQuiet_load rfl 31 _ rfl _ rfl _ LY.out ?_; simp only [Act.put, sT, sS, sZ]) | (with_reducible refine wpQuiet_load rfl 31 _ rfl _ rfl _ LX.out ?_; simp only [Act.put, sT, sS, sZ]) | (go_big_quiet_step (first | (with_reducible exact M1.out _) | (with_reducible exact K3.out _))))
      refine wpQuiet_nil ?_
      rintro _ ⟨z, rfl⟩
      have HE := hid (HQ.out.trans (z.below.mono HQ.out.size))
      have hr := hid (HUP.out m x y HX.out (by rw [← HM.out]; exact HY.out) (hcge.out.1 hc0))
      clear LY M1 LX K3
      go_wp2_with fail
      go_ret
      exact ⟨by rw [hr.out]; rfl, HE.out⟩
     ·go_wp2_with fail
      refine wp_region_quietL (C := Grows V1) hmx (by kernel_rfl) (grows_refl V1) ?_
      repeat (first | (with_reducible refine wpQuiet_load rfl 31 _ rfl _ rfl _ LY.out ?_; simp only [Act.put, sT, sS, sZ]) | (with_reducible refine wpQuiet_load rfl 31 _ rfl _ rfl _ LX.out ?_; simp only [Act.put, sT, sS, sZ]) | (go_big_quiet_step (first | (with_reducible exact M1.out _) | (with_reducible exact K3.out _))))
      refine wpQuiet_nil ?_
      rintro _ ⟨z, rfl⟩
      have HE := hid (HQ.out.trans (z.below.mono HQ.out.size))
      have HNX := hid (show okTo l (k + 1) from HOK.out.next HY.out HSY.out (fun m' x' e h => by
       have e' : m' = m := by have := HM.out; omega
       subst e'
       rw [HX.out] at h
       injection h with h
       subst h
       exact Classical.byContradiction (fun h => by have := hcge.out.2 h; omega)))
      clear LY M1 LX K3
      go_wp2_with fail
      go_roundw
      case rel => exact ⟨k + 1, by simp, by have := HKK.out; omega, HNX.out, HE.out⟩
      case measure => have := HKK.out; simp [intOf]; omega
   ·have hr := hid (HNO.out k y HY.out HSY.out)
    generalize kyC y = cy at *
    clear hkn hk ay hy
    go_wp2_with fail
    refine wp_region_quietL (C := Grows V1) hmx (by kernel_rfl) (grows_refl V1) ?_
    repeat (first | (with_reducible refine wpQuiet_load rfl 31 _ rfl _ rfl _ LY.out ?_; simp only [Act.put, sT, sS, sZ]) | (go_big_quiet_step (first | (with_reducible exact M1.out _))))
    refine wpQuiet_nil ?_
    rintro _ ⟨z, rfl⟩
    have HE := hid (HQ.out.trans (z.below.mono HQ.out.size))
    clear LY M1
    go_wp2_with fail
    go_ret
    exact ⟨by rw [hr.out]; rfl, HE.out⟩
  ·obtain rfl : k = n := by have := HK.out; omega
   have hnn : ¬ (k : Int) < (k : Int) := by omega
   have he := hid (HALL.out HOK.out)
   by_cases h200 : k ≤ 200
   ·have hI : (k : Int) ≤ 200 := by omega
    go_wp2_with fail
    go_ret
    exact ⟨by rw [he.out, decide_eq_true h200]; rfl, HQ.out⟩
   ·have hI : ¬ (k : Int) ≤ 200 := by omega
    go_wp2_with fail
    go_ret
    exact ⟨by rw [he.out, decide_eq_false h200]; rfl, HQ.out⟩
theorem stray_next {y : Ky} {l : List Ky} {k : Nat} (h : l[k]? = some y) (hn : (l.take k).any strayK = false) (hy : strayK y = false) : (l.take (k + 1)).any strayK = false := by
 rw [List.take_add_one, h, List.any_append, hn]
 simp [hy]
theorem stray_some {y : Ky} {l : List Ky} {k : Nat} (h : l[k]? = some y) (hy : strayK y = true) : l.any strayK = true := List.any_eq_true.2 ⟨y, List.mem_of_getElem? h, hy⟩
theorem rmakeG_any (W : World) (rv sv : Value) (r s : List Ky) (hr : KeysAt W rv r) (hs : KeysAt W sv s) (hlr : r.length ≤ 9999) (hls : s.length ≤ 9999) :
  Calls Try.prog 12 #[rv, sv] W (SetsP W (makeM r s).1 (makeM r s).2.1 (makeM r s).2.2) := by
 have hfin := hid (show ∀ (w' : World) (x y : Value) (c : Nat) (a b : List Ky), makeM r s = (a, b, c) → KeysAt w' x a → KeysAt w' y b → Below W.heap.size W w' → SetsP W (makeM r s).1 (makeM r s).2.1 (makeM r s).2.2 (.returned (.tuple #[.agg #[x, y], .int .i64 (c : Int)])) w' from fun w' x y c a b h h1 h2 h3 => by rw [h]; exact ⟨_, _, rfl, h1, h2, h3⟩)
 obtain ⟨Post, hPost⟩ : ∃ Post, SetsP W (makeM r s).1 (makeM r s).2.1 (makeM r s).2.2 = Post := ⟨_, rfl⟩
 rw [hPost] at hfin ⊢
 clear hPost
 have MA := hid (show (r.any strayK = true ∨ s.any strayK = true) → makeM r s = ([], [], 1) from fun h => by unfold makeM; rw [if_pos (by rcases h with h | h <;> simp [h])])
 have ML := hid (show r.any strayK = false → s.any strayK = false → (200 < (setL r).length ∨ 200 < (setL s).length) → makeM r s = ([], [], 2) from fun h1 h2 h => by unfold makeM; rw [h1, h2, if_neg (by decide), if_pos h])
 have MO := hid (show r.any strayK = false → s.any strayK = false → (setL r).length ≤ 200 → (setL s).length ≤ 200 → makeM r s = (setL r, setL s, 0) from makeM_ok)
 have hB := (Has.new W 24 #[.slice none 0 0, .slice none 0 0]).alloc (.cells #[rv, sv] 22)
 have hP := Has.new (W.alloc (.cells #[.slice none 0 0, .slice none 0 0] 24)) 22 #[rv, sv]
 simp only [World.size_alloc] at hP
 have hq0 := (newA W (.cells #[.slice none 0 0, .slice none 0 0] 24)).alloc (by simp) (.cells #[rv, sv] 22)
 obtain ⟨ra, rc, rfl, _, hrm⟩ := hr.shape
 obtain ⟨sa, sc, rfl, _, hsm⟩ := hs.shape
 obtain ⟨V, hV⟩ : ∃ V, (W.alloc (.cells #[.slice none 0 0, .slice none 0 0] 24)).alloc (.cells #[.slice ra r.length rc, .slice sa s.length sc] 22) = V := ⟨_, rfl⟩
 rw [hV] at hB hP hq0
 have HR := hid (hr.later hq0)
 have HS := hid (hs.later hq0)
 have Q := hid hq0
 have HB := hid hB
 have HP := hid hP
 have S1 := hid (fun (X : World) (hX : Below V.heap.size V X) => rset_any X _ r (HR.out.later hX) (by omega))
 have S2 := hid (fun (X : World) (hX : Below V.heap.size V X) => rset_any X _ s (HS.out.later hX) (by omega))
 have OR := hid (setL_ok hr.all)
 have OS := hid (setL_ok hs.all)
 obtain ⟨rn, hrn⟩ : ∃ rn, r.length = rn := ⟨_, rfl⟩
 obtain ⟨sn, hsn⟩ : ∃ sn, s.length = sn := ⟨_, rfl⟩
 have HRN := hid (And.intro hrn hlr)
 have HSN := hid (And.intro hsn hls)
 rw [hrn] at HP HR S1 hV ⊢
 rw [hsn] at HP HS S2 hV ⊢
 clear hr hs hlr hls hq0 hB hP hrm hsm hrn hsn
 go_enter Try.func12, Try.ntmps12
 go_wp2_with fail
 clear hV
 go_loopw [14] (fun jv wr => ∃ j : Int, jv = .int .i64 j ∧ (j = 0 ∨ j = 1 ∨ j = 2) ∧ (j ≠ 0 → r.any strayK = false) ∧ (j = 2 → s.any strayK = false) ∧ Below V.heap.size V wr) (fun jv _ => 2 - (intOf jv).toNat)
 case atStart => exact ⟨0, rfl, .inl rfl, fun h => absurd rfl h, fun h => by omega, Below.refl _ _⟩
 case round =>
  obtain ⟨j, rfl, hj3, hjr, hjs, hq⟩ := hrel
  have HJR := hid hjr
  have HJS := hid hjs
  clear hjr hjs
  have HQ := hid hq
  obtain ⟨V1, hV1⟩ : ∃ V1, V1 = wr := ⟨_, rfl⟩
  subst hV1
  clear hq
  rcases hj3 with rfl | rfl | rfl
  ·have c := (HP.out.later HQ.out).cell 0 _ rfl
   go_wp2_with fail
   clear c
   go_loopw [8] (fun iv wq => ∃ k : Nat, iv = .int .i64 (k : Int) ∧ k ≤ rn ∧ (r.take k).any strayK = false ∧ Below V1.heap.size V1 wq) (fun iv _ => rn - (intOf iv).toNat)
   case atStart => exact ⟨0, rfl, by omega, rfl, Below.refl _ _⟩
   case round =>
    obtain ⟨k, rfl, hk, hnk, hq⟩ := hrel
    have HNK := hid hnk
    clear hnk
    have HQ1 := hid (HQ.out.trans (hq.mono HQ.out.size))
    have HQ2 := hid hq
    have HK := hid hk
    clear hq
    by_cases hkn : k < rn
    ·have hknI : (k : Int) < (rn : Int) := by omega
     have hk0 : (0 : Int) ≤ (k : Int) := by omega
     have hkb : (k : Int) ≤ 9223372036854775806 := by have := HRN.out; omega
     obtain ⟨y, hy⟩ : ∃ y, r[k]? = some y := ⟨_, List.getElem?_eq_getElem (by have := HRN.out; omega)⟩
     have hlk := HR.out.later HQ1.out
     obtain ⟨a', cap', e', _, _, hoks, hall⟩ := hlk
     injection e' with e1 e2 e3
     subst e1 e3
     obtain ⟨b, rfl, ay⟩ := hall k y hy
     have LY := hid (KyIn.load ay)
     have RM := hid (rmay_any wr y (hoks y (List.mem_of_getElem? hy)))
     rw [may_stray] at RM
     have HY := hid hy
     obtain ⟨sy, hsy⟩ : ∃ b, strayK y = b := ⟨_, rfl⟩
     have HSY := hid hsy
     rw [hsy] at RM
     have HKK := hid hkn
     clear hkn hk ay hy hoks hall e2 hsy
     cases sy
     rotate_left 1
     ·have b7 := HB.out.later HQ1.out
      go_wp2_with (first | (refine wpList_load_known rfl _ (.tmp 26) rfl _ rfl _ LY.out ?_) | fail)
      refine RM.out.mono ?_
      rintro _ w1 ⟨rfl, hb1⟩
      have QN := hid (HQ1.out.trans (hb1.mono HQ1.out.size))
      have b7 := HB.out.later QN.out
      have z0 := b7.cell 0 _ rfl
      have z1 := b7.cell 1 _ rfl
      have f0 := b7.frozen 0
      have f1 := b7.frozen 1
      have hF := hid ((b7.set 0 (.slice none 0 0)).set 1 (.slice none 0 0))
      have QF := hid (((Q.out.trans (QN.out.mono Q.out.size)).setCell (p := ⟨W.heap.size, 0, none⟩) (Nat.le_refl _) (.slice none 0 0)).setCell (p := ⟨W.heap.size, 1, none⟩) (Nat.le_refl _) (.slice none 0 0))
      have ME := hid (MA.out (.inl (stray_some HY.out HSY.out)))
      clear hb1 RM LY b7
      go_wp2_with fail
      refine bodyPost_ret (results_setsB rfl rfl hF.out) rfl ?_
      exact hfin.out _ _ _ 1 _ _ ME.out (KeysAt.nil _) (KeysAt.nil _) QF.out
     have HNX := hid (stray_next HY.out HNK.out HSY.out)
     go_wp2_with (first | (refine wpList_load_known rfl _ (.tmp 26) rfl _ rfl _ LY.out ?_) | fail)
     refine RM.out.mono ?_
     rintro _ w1 ⟨rfl, hb1⟩
     have QN := hid (HQ2.out.trans (hb1.mono HQ2.out.size))
     clear hb1 RM LY
     go_wp2_with fail
     go_roundw
     case rel => exact ⟨k + 1, by simp, by have := HKK.out; omega, HNX.out, QN.out⟩
     case measure => have := HKK.out; simp [intOf]; omega
    ·obtain rfl : k = rn := by have := HK.out; omega
     have hnn : ¬ (k : Int) < (k : Int) := by omega
     have HAL := hid (show r.any strayK = false from by have h := HNK.out; rwa [List.take_of_length_le (by have := HRN.out; omega)] at h)
     go_wp2_with fail
     go_roundw
     case rel => exact ⟨1, rfl, by simp, fun _ => HAL.out, fun h => by omega, HQ1.out⟩
     case measure => simp [intOf]
  ·have c := (HP.out.later HQ.out).cell 1 _ rfl
   go_wp2_with fail
   clear c
   go_loopw [8] (fun iv wq => ∃ k : Nat, iv = .int .i64 (k : Int) ∧ k ≤ sn ∧ (s.take k).any strayK = false ∧ Below V1.heap.size V1 wq) (fun iv _ => sn - (intOf iv).toNat)
   case atStart => exact ⟨0, rfl, by omega, rfl, Below.refl _ _⟩
   case round =>
    obtain ⟨k, rfl, hk, hnk, hq⟩ := hrel
    have HNK := hid hnk
    clear hnk
    have HQ1 := hid (HQ.out.trans (hq.mono HQ.out.size))
    have HQ2 := hid hq
    have HK := hid hk
    clear hq
    by_cases hkn : k < sn
    ·have hknI : (k : Int) < (sn : Int) := by omega
     have hk0 : (0 : Int) ≤ (k : Int) := by omega
     have hkb : (k : Int) ≤ 9223372036854775806 := by have := HSN.out; omega
     obtain ⟨y, hy⟩ : ∃ y, s[k]? = some y := ⟨_, List.getElem?_eq_getElem (by have := HSN.out; omega)⟩
     have hlk := HS.out.later HQ1.out
     obtain ⟨a', cap', e', _, _, hoks, hall⟩ := hlk
     injection e' with e1 e2 e3
     subst e1 e3
     obtain ⟨b, rfl, ay⟩ := hall k y hy
     have LY := hid (KyIn.load ay)
     have RM := hid (rmay_any wr y (hoks y (List.mem_of_getElem? hy)))
     rw [may_stray] at RM
     have HY := hid hy
     obtain ⟨sy, hsy⟩ : ∃ b, strayK y = b := ⟨_, rfl⟩
     have HSY := hid hsy
     rw [hsy] at RM
     have HKK := hid hkn
     clear hkn hk ay hy hoks hall e2 hsy
     cases sy
     rotate_left 1
     ·have b7 := HB.out.later HQ1.out
      go_wp2_with (first | (refine wpList_load_known rfl _ (.tmp 26) rfl _ rfl _ LY.out ?_) | fail)
      refine RM.out.mono ?_
      rintro _ w1 ⟨rfl, hb1⟩
      have QN := hid (HQ1.out.trans (hb1.mono HQ1.out.size))
      have b7 := HB.out.later QN.out
      have z0 := b7.cell 0 _ rfl
      have z1 := b7.cell 1 _ rfl
      have f0 := b7.frozen 0
      have f1 := b7.frozen 1
      have hF := hid ((b7.set 0 (.slice none 0 0)).set 1 (.slice none 0 0))
      have QF := hid (((Q.out.trans (QN.out.mono Q.out.size)).setCell (p := ⟨W.heap.size, 0, none⟩) (Nat.le_refl _) (.slice none 0 0)).setCell (p := ⟨W.heap.size, 1, none⟩) (Nat.le_refl _) (.slice none 0 0))
      have ME := hid (MA.out (.inr (stray_some HY.out HSY.out)))
      clear hb1 RM LY b7
      go_wp2_with fail
      refine bodyPost_ret (results_setsB rfl rfl hF.out) rfl ?_
      exact hfin.out _ _ _ 1 _ _ ME.out (KeysAt.nil _) (KeysAt.nil _) QF.out
     have HNX := hid (stray_next HY.out HNK.out HSY.out)
     go_wp2_with (first | (refine wpList_load_known rfl _ (.tmp 26) rfl _ rfl _ LY.out ?_) | fail)
     refine RM.out.mono ?_
     rintro _ w1 ⟨rfl, hb1⟩
     have QN := hid (HQ2.out.trans (hb1.mono HQ2.out.size))
     clear hb1 RM LY
     go_wp2_with fail
     go_roundw
     case rel => exact ⟨k + 1, by simp, by have := HKK.out; omega, HNX.out, QN.out⟩
     case measure => have := HKK.out; simp [intOf]; omega
    ·obtain rfl : k = sn := by have := HK.out; omega
     have hnn : ¬ (k : Int) < (k : Int) := by omega
     have HAL := hid (show s.any strayK = false from by have h := HNK.out; rwa [List.take_of_length_le (by have := HSN.out; omega)] at h)
     go_wp2_with fail
     go_roundw
     case rel => exact ⟨2, rfl, by simp, fun _ => HJR.out (by decide), fun _ => HAL.out, HQ1.out⟩
     case measure => simp [intOf]
  ·go_wp2_with fail
   refine (S1.out _ HQ.out).mono ?_
   rintro _ w3 ⟨v3, rfl, hr3, hb3⟩
   have hk3 := hr3.keys OR.out
   have hb13 := HQ.out.trans (hb3.mono HQ.out.size)
   obtain ⟨a3, c3, hv3, _⟩ := hk3.shape
   subst hv3
   have K3 := hid hk3
   have QB3 := hid hb13
   clear hk3 hb3 hr3 hb13
   obtain ⟨n3, hn3⟩ : ∃ n, (setL r).length = n := ⟨_, rfl⟩
   have HN3 := hid hn3
   rw [hn3] at K3 ⊢
   clear hn3
   go_wp2_with fail
   refine (S2.out w3 QB3.out).mono ?_
   rintro _ w4 ⟨v4, rfl, hr4, hb4⟩
   have hk4 := hr4.keys OS.out
   have hb14 := QB3.out.trans (hb4.mono QB3.out.size)
   obtain ⟨a4, c4, hv4, _⟩ := hk4.shape
   subst hv4
   have K34 := hid (K3.out.later hb4)
   have K4 := hid hk4
   clear hk4 hb4 hr4
   obtain ⟨n4, hn4⟩ : ∃ n, (setL s).length = n := ⟨_, rfl⟩
   have HN4 := hid hn4
   rw [hn4] at K4 ⊢
   clear hn4
   obtain ⟨W5, hW5, hBB, hqq⟩ := newBox w4 24 #[.slice a3 n3 c3, .slice a4 n4 c4]
   have Q5 := hid (hb14.trans (hqq.mono hb14.size))
   have d0 := hBB.cell 0 _ rfl
   have d1 := hBB.cell 1 _ rfl
   have b7 := HB.out.later Q5.out
   have z0 := b7.cell 0 _ rfl
   have z1 := b7.cell 1 _ rfl
   have f0 := b7.frozen 0
   have f1 := b7.frozen 1
   have hE := hid ((b7.set 0 (.slice none 0 0)).set 1 (.slice none 0 0))
   have QE := hid (((Q.out.trans (Q5.out.mono Q.out.size)).setCell (p := ⟨W.heap.size, 0, none⟩) (Nat.le_refl _) (.slice none 0 0)).setCell (p := ⟨W.heap.size, 1, none⟩) (Nat.le_refl _) (.slice none 0 0))
   have hF := hid ((b7.set 0 (.slice a3 n3 c3)).set 1 (.slice a4 n4 c4))
   have QF := hid (((Q.out.trans (Q5.out.mono Q.out.size)).setCell (p := ⟨W.heap.size, 0, none⟩) (Nat.le_refl _) (.slice a3 n3 c3)).setCell (p := ⟨W.heap.size, 1, none⟩) (Nat.le_refl _) (.slice a4 n4 c4))
   have b7s : Has (W5.setCell ⟨W.heap.size, 0, none⟩ (.slice a3 n3 c3)) W.heap.size 24 #[.slice a3 n3 c3, .slice none 0 0] := b7.set 0 _
   have KA2 := hid (((K34.out.later hqq).away b7 0 (.slice a3 n3 c3)).away b7s 1 (.slice a4 n4 c4))
   have KB2 := hid (((K4.out.later hqq).away b7 0 (.slice a3 n3 c3)).away b7s 1 (.slice a4 n4 c4))
   have HLt := hid HB.out.lt
   clear b7s b7 hqq hb14 hBB
   have NR := HJR.out (by first | decide | trivial)
   have NS := HJS.out (by trivial)
   rw [HN3.out] at MO ML
   rw [HN4.out] at MO ML
   replace MO := hid (MO.out NR NS)
   replace ML := hid (ML.out NR NS)
   clear NR NS
   by_cases h3 : 200 < n3
   ·have hI3 : (200 : Int) < (n3 : Int) := by omega
    have ME := hid (ML.out (.inl h3))
    go_wp2_with fail
    refine bodyPost_ret (results_setsB rfl rfl hE.out) rfl ?_
    exact hfin.out _ _ _ 2 _ _ ME.out (KeysAt.nil _) (KeysAt.nil _) QE.out
   ·by_cases h4 : 200 < n4
    ·have hI3 : ¬ (200 : Int) < (n3 : Int) := by omega
     have hI4 : (200 : Int) < (n4 : Int) := by omega
     have ME := hid (ML.out (.inr h4))
     go_wp2_with fail
     refine bodyPost_ret (results_setsB rfl rfl hE.out) rfl ?_
     exact hfin.out _ _ _ 2 _ _ ME.out (KeysAt.nil _) (KeysAt.nil _) QE.out
    ·have hI3 : ¬ (200 : Int) < (n3 : Int) := by omega
     have hI4 : ¬ (200 : Int) < (n4 : Int) := by omega
     have ME := hid (MO.out (by omega) (by omega))
     go_wp2_with fail
     refine bodyPost_ret (results_setsB rfl rfl hF.out) rfl ?_
     exact hfin.out _ _ _ 0 _ _ ME.out KA2.out KB2.out QF.out
theorem rRight_any (W : World) (v : Value) (r s : List Ky) (hs : SetsAt W v r s) :
  Calls Try.prog 15 #[v] W fun e w' => e = .returned (.bool (fitB r && fitB s)) ∧ Below W.heap.size W w' := by
 obtain ⟨x, y, rfl, k1, k2⟩ := hs.ex
 obtain ⟨a1, c1, rfl, _, _⟩ := k1.shape
 obtain ⟨a2, c2, rfl, _, _⟩ := k2.shape
 obtain ⟨V, hV, h0, q0⟩ := newBox W 24 #[.slice a1 r.length c1, .slice a2 s.length c2]
 have R1 := hid (rright_any V _ r (k1.later q0))
 have R2 := hid (fun (X : World) (hX : Below V.heap.size V X) => rright_any X _ s (k2.later (q0.trans (hX.mono q0.size))))
 have HB := hid h0
 have Q := hid q0
 have b0 := h0.cell 0 _ rfl
 clear h0 q0 k1 k2 hs
 generalize fitB r = p at *
 generalize fitB s = q at *
 generalize r.length = n1 at *
 generalize s.length = n2 at *
 cases p
 ·go_enter Try.func15, Try.ntmps15
  go_wp2_with fail
  clear b0
  refine R1.out.mono ?_
  rintro _ w1 ⟨rfl, hb1⟩
  have QE := hid (Q.out.trans (hb1.mono Q.out.size))
  go_wp2_with fail
  go_ret
  exact ⟨by simp, QE.out⟩
 ·go_enter Try.func15, Try.ntmps15
  go_wp2_with fail
  clear b0
  refine R1.out.mono ?_
  rintro _ w1 ⟨rfl, hb1⟩
  have QE := hid (Q.out.trans (hb1.mono Q.out.size))
  have b1 := (HB.out.later hb1).cell 1 _ rfl
  have S1 := hid hb1
  clear hb1
  go_wp2_with fail
  clear b1
  refine (R2.out w1 S1.out).mono ?_
  rintro _ w2 ⟨rfl, hb2⟩
  have QF := hid (QE.out.trans (hb2.mono QE.out.size))
  go_wp2_with fail
  go_ret
  exact ⟨by simp, QF.out⟩
section
def UR (W R : World) (B3 : Nat) (r rr s ss m1 m2 : List Ky) (cv : Value) (f : Nat → Bool) (g : Nat → Value) (w : World) : Prop :=
 Below W.heap.size W w ∧ (f 15 = false → Below R.heap.size R w) ∧
 (f 2 = true → f 5 = false → ∃ b, R.heap.size ≤ b ∧ b ≤ w.heap.size ∧ KRow w b (g 2) r) ∧
 (f 5 = true → f 8 = false → KeysAt w (g 5) rr) ∧
 (f 8 = true → f 11 = false → ∃ Y : World, KeysAt Y (g 5) rr ∧ Below Y.heap.size Y w ∧ R.heap.size ≤ Y.heap.size ∧ KRow w Y.heap.size (g 8) s) ∧
 (f 11 = true → KeysAt w (g 5) rr ∧ KeysAt w (g 11) ss) ∧
 (f 12 = true → ∃ x y, g 12 = .tuple #[.agg #[x, y], cv] ∧ KeysAt w x m1 ∧ KeysAt w y m2) ∧
 (f 13 = true → ∃ x y, g 12 = .tuple #[.agg #[x, y], cv] ∧ g 13 = .agg #[x, y]) ∧
 (f 15 = true → ∃ x y, g 12 = .tuple #[.agg #[x, y], cv] ∧ Has w B3 24 #[x, y])
variable {W R : World} {B3 : Nat} {r rr s ss m1 m2 : List Ky} {cv : Value} {f : Nat → Bool} {g : Nat → Value} {w w' : World}
theorem UR.later (h : UR W R B3 r rr s ss m1 m2 cv f g w) (hb : Below w.heap.size w w') : UR W R B3 r rr s ss m1 m2 cv f g w' := by
 obtain ⟨h1, h2, h3, h4, h5, h6, h7, h8, h9⟩ := h
 exact ⟨h1.trans (hb.mono h1.size), fun k => (h2 k).trans (hb.mono (h2 k).size), fun k k' => let ⟨b, i, j, e⟩ := h3 k k'; ⟨b, i, Nat.le_trans j hb.size, e.later hb⟩, fun k k' => (h4 k k').later hb,
  fun k k' => let ⟨Y, i, j, l, e⟩ := h5 k k'; ⟨Y, i, j.trans (hb.mono j.size), l, e.later hb⟩, fun k => ⟨(h6 k).1.later hb, (h6 k).2.later hb⟩,
  fun k => let ⟨x, y, e, j, i⟩ := h7 k; ⟨x, y, e, j.later hb, i.later hb⟩, h8, fun k => let ⟨x, y, e, j⟩ := h9 k; ⟨x, y, e, j.later hb⟩⟩
theorem UR.same {f' : Nat → Bool} {g' : Nat → Value} (h : UR W R B3 r rr s ss m1 m2 cv f g w) (hh : ∀ j, j = 2 ∨ j = 5 ∨ j = 8 ∨ j = 11 ∨ j = 12 ∨ j = 13 ∨ j = 15 → f j = f' j ∧ g j = g' j) : UR W R B3 r rr s ss m1 m2 cv f' g' w := by
 unfold UR at h ⊢
 rwa [(hh 2 (by omega)).1, (hh 2 (by omega)).2, (hh 5 (by omega)).1, (hh 5 (by omega)).2, (hh 8 (by omega)).1, (hh 8 (by omega)).2, (hh 11 (by omega)).1, (hh 11 (by omega)).2, (hh 12 (by omega)).1, (hh 12 (by omega)).2, (hh 13 (by omega)).1, (hh 13 (by omega)).2, (hh 15 (by omega)).1] at h
theorem UR.n2 (h : UR W R B3 r rr s ss m1 m2 cv f g w) (hb : Below w.heap.size w w') (_f5 : f 5 = false) (f15 : f 15 = false) {v : Value} (hk : KRow w' w.heap.size v r) : UR W R B3 r rr s ss m1 m2 cv (upd f 2 true) (upd g 2 v) w' := by
 have hs := (h.2.1 f15).size
 obtain ⟨h1, h2, h3, h4, h5, h6, h7, h8, h9⟩ := h.later hb
 exact ⟨h1, by simpa [upd] using h2, fun _ _ => ⟨w.heap.size, hs, hb.size, by simpa [upd] using hk⟩, by simpa [upd] using h4, by simpa [upd] using h5, by simpa [upd] using h6, by simpa [upd] using h7, by simpa [upd] using h8, by simpa [upd] using h9⟩
theorem UR.n5 (h : UR W R B3 r rr s ss m1 m2 cv f g w) (hb : Below R.heap.size w w') (f8 : f 8 = false) (f11 : f 11 = false) (f15 : f 15 = false) {v : Value} (hk : KeysAt w' v rr) (hW : W.heap.size ≤ R.heap.size) (f12 : f 12 = false) (f13 : f 13 = false) : UR W R B3 r rr s ss m1 m2 cv (upd f 5 true) (upd g 5 v) w' := by
 obtain ⟨h1, h2, h3, h4, h5, h6, h7, h8, h9⟩ := h
 exact ⟨h1.trans (hb.mono hW), fun k => (h2 f15).trans hb, fun _ k => by simp [upd] at k, fun _ _ => by simpa [upd] using hk, fun k => by simp [upd, f8] at k, fun k => by simp [upd, f11] at k, fun k => by simp [upd, f12] at k, fun k => by simp [upd, f13] at k, fun k => by simp [upd, f15] at k⟩
theorem UR.n8 (h : UR W R B3 r rr s ss m1 m2 cv f g w) (hb : Below w.heap.size w w') (_f11 : f 11 = false) (f15 : f 15 = false) {v : Value} (hk : KRow w' w.heap.size v s) (f5 : f 5 = true) (f8 : f 8 = false) : UR W R B3 r rr s ss m1 m2 cv (upd f 8 true) (upd g 8 v) w' := by
 have hs := (h.2.1 f15).size
 have h50 := h.2.2.2.1 f5 f8
 obtain ⟨h1, h2, h3, h4, h5, h6, h7, h8, h9⟩ := h.later hb
 exact ⟨h1, by simpa [upd] using h2, by simpa [upd] using h3, fun _ k => by simp [upd] at k, fun _ _ => ⟨w, by simpa [upd] using h50, hb, hs, by simpa [upd] using hk⟩, by simpa [upd] using h6, by simpa [upd] using h7, by simpa [upd] using h8, by simpa [upd] using h9⟩
theorem UR.n11 (h : UR W R B3 r rr s ss m1 m2 cv f g w) (hb : Below R.heap.size w w') (f12 : f 12 = false) (f15 : f 15 = false) {v : Value} (hk5 : KeysAt w' (g 5) rr) (hk : KeysAt w' v ss) (hW : W.heap.size ≤ R.heap.size) (f13 : f 13 = false) (f5 : f 5 = true) (f8 : f 8 = true) : UR W R B3 r rr s ss m1 m2 cv (upd f 11 true) (upd g 11 v) w' := by
 obtain ⟨h1, h2, h3, h4, h5, h6, h7, h8, h9⟩ := h
 exact ⟨h1.trans (hb.mono hW), fun k => (h2 f15).trans hb, fun _ k => by simp [upd, f5] at k, fun _ k => by simp [upd, f8] at k, fun _ k => by simp [upd] at k, fun _ => ⟨by simpa [upd] using hk5, by simpa [upd] using hk⟩, fun k => by simp [upd, f12] at k, fun k => by simp [upd, f13] at k, fun k => by simp [upd, f15] at k⟩
theorem UR.n12 (h : UR W R B3 r rr s ss m1 m2 cv f g w) (hb : Below w.heap.size w w') (f13 : f 13 = false) (f15 : f 15 = false) {x y : Value} (hk : KeysAt w' x m1) (hk2 : KeysAt w' y m2) : UR W R B3 r rr s ss m1 m2 cv (upd f 12 true) (upd g 12 (.tuple #[.agg #[x, y], cv])) w' := by
 obtain ⟨h1, h2, h3, h4, h5, h6, h7, h8, h9⟩ := h.later hb
 exact ⟨h1, by simpa [upd] using h2, by simpa [upd] using h3, by simpa [upd] using h4, by simpa [upd] using h5, by simpa [upd] using h6, fun _ => ⟨x, y, by simp [upd], hk, hk2⟩, fun k => by simp [upd, f13] at k, fun k => by simp [upd, f15] at k⟩
theorem UR.n13 (h : UR W R B3 r rr s ss m1 m2 cv f g w) {x y : Value} (e : g 12 = .tuple #[.agg #[x, y], cv]) : UR W R B3 r rr s ss m1 m2 cv (upd f 13 true) (upd g 13 (.agg #[x, y])) w := by
 obtain ⟨h1, h2, h3, h4, h5, h6, h7, h8, h9⟩ := h
 exact ⟨h1, by simpa [upd] using h2, by simpa [upd] using h3, by simpa [upd] using h4, by simpa [upd] using h5, by simpa [upd] using h6, by simpa [upd] using h7, fun _ => ⟨x, y, by simpa [upd] using e, by simp [upd]⟩, by simpa [upd] using h9⟩
theorem UR.n15 (h : UR W R B3 r rr s ss m1 m2 cv f g w) (f5 : f 5 = true) (f8 : f 8 = true) (f11 : f 11 = true) (f12 : f 12 = true) (hB : W.heap.size ≤ B3) (hz : Has w B3 24 #[.slice none 0 0, .slice none 0 0]) {a b : Option Addr} {n c m d : Nat} (e : g 12 = .tuple #[.agg #[.slice a n c, .slice b m d], cv]) (u : Value) :
  UR W R B3 r rr s ss m1 m2 cv (upd f 15 true) (upd g 15 u) (put2 w B3 (.slice a n c) (.slice b m d)) := by
 obtain ⟨h1, h2, h3, h4, h5, h6, h7, h8, h9⟩ := h
 obtain ⟨x, y, e1, k1, k2⟩ := h7 f12
 exact ⟨below_put2 h1 hB _ _, fun k => by simp [upd] at k, fun _ k => by simp [upd, f5] at k, fun _ k => by simp [upd, f8] at k, fun _ k => by simp [upd, f11] at k, fun _ => ⟨by simpa [upd] using (h6 f11).1.onPut2 hz _, by simpa [upd] using (h6 f11).2.onPut2 hz _⟩,
  fun _ => ⟨x, y, by simpa [upd] using e1, k1.onPut2 hz _, k2.onPut2 hz _⟩, by simpa [upd] using h8, fun _ => ⟨_, _, by simpa [upd] using e, hz.onPut2 _ _⟩⟩
end
theorem rjoin_any (W : World) (v1 v2 : Value) (r s r2 s2 : List Ky) (hs1 : SetsAt W v1 r s) (hs2 : SetsAt W v2 r2 s2) :
  Calls Try.prog 19 #[v1, v2] W (SetsP W (joinM r s r2 s2).1 (joinM r s r2 s2).2.1 (joinM r s r2 s2).2.2) := by
 have hmx : Try.prog.follows .mixedOrders = true := by kernel_rfl
 have HR1 := hid (fun (X : World) (hX : Below W.heap.size W X) => rRight_any X v1 r s (hs1.later hX))
 have HR2 := hid (fun (X : World) (hX : Below W.heap.size W X) => rRight_any X v2 r2 s2 (hs2.later hX))
 have hfin := hid (show ∀ (w' : World) (x y : Value) (c : Nat) (a b : List Ky), joinM r s r2 s2 = (a, b, c) → KeysAt w' x a → KeysAt w' y b → Below W.heap.size W w' → SetsP W (joinM r s r2 s2).1 (joinM r s r2 s2).2.1 (joinM r s r2 s2).2.2 (.returned (.tuple #[.agg #[x, y], .int .i64 (c : Int)])) w' from fun w' x y c a b e h1 h2 h3 => by rw [e]; exact ⟨x, y, rfl, h1, h2, h3⟩)
 obtain ⟨Post, hPost⟩ : ∃ Post, SetsP W (joinM r s r2 s2).1 (joinM r s r2 s2).2.1 (joinM r s r2 s2).2.2 = Post := ⟨_, rfl⟩
 rw [hPost] at hfin ⊢
 clear hPost
 obtain ⟨a1, c1, a2, c2, rfl, k1, k2⟩ := hs1.shapes
 obtain ⟨a3, c3, a4, c4, rfl, k3, k4⟩ := hs2.shapes
 obtain ⟨n1, e1⟩ : ∃ n, r.length = n := ⟨_, rfl⟩
 obtain ⟨n2, e2⟩ : ∃ n, s.length = n := ⟨_, rfl⟩
 obtain ⟨n3, e3⟩ : ∃ n, r2.length = n := ⟨_, rfl⟩
 obtain ⟨n4, e4⟩ : ∃ n, s2.length = n := ⟨_, rfl⟩
 rw [e1] at k1 HR1 ⊢
 rw [e2] at k2 HR1 ⊢
 rw [e3] at k3 HR2 ⊢
 rw [e4] at k4 HR2 ⊢
 have HN := hid (And.intro e1 (And.intro e2 (And.intro e3 e4)))
 have HKS := hid (And.intro k1 (And.intro k2 (And.intro k3 k4)))
 clear hs1 hs2 e1 e2 e3 e4 k1 k2 k3 k4
 have h0 := ((Has.new W 24 #[.slice a1 n1 c1, .slice a2 n2 c2]).alloc (.cells #[.slice a3 n3 c3, .slice a4 n4 c4] 24)).alloc (.cells #[.slice none 0 0, .slice none 0 0] 24)
 have h1 := (Has.new (W.alloc (.cells #[.slice a1 n1 c1, .slice a2 n2 c2] 24)) 24 #[.slice a3 n3 c3, .slice a4 n4 c4]).alloc (.cells #[.slice none 0 0, .slice none 0 0] 24)
 have h2 := Has.new ((W.alloc (.cells #[.slice a1 n1 c1, .slice a2 n2 c2] 24)).alloc (.cells #[.slice a3 n3 c3, .slice a4 n4 c4] 24)) 24 #[.slice none 0 0, .slice none 0 0]
 simp only [World.size_alloc] at h1 h2
 have q0 := ((newA W (.cells #[.slice a1 n1 c1, .slice a2 n2 c2] 24)).alloc (by simp) (.cells #[.slice a3 n3 c3, .slice a4 n4 c4] 24)).alloc (by simp; omega) (.cells #[.slice none 0 0, .slice none 0 0] 24)
 obtain ⟨V, hV⟩ : ∃ V, ((W.alloc (.cells #[.slice a1 n1 c1, .slice a2 n2 c2] 24)).alloc (.cells #[.slice a3 n3 c3, .slice a4 n4 c4] 24)).alloc (.cells #[.slice none 0 0, .slice none 0 0] 24) = V := ⟨_, rfl⟩
 rw [hV] at h0 h1 h2 q0
 have H1 := hid h0
 have H2 := hid h1
 have H3 := hid h2
 have Q0 := hid q0
 have HRV := hid (HR1.out V q0)
 have b0 := h0.cell 0 _ rfl
 have b1 := h0.cell 1 _ rfl
 clear h0 h1 h2 q0
 cases hr1 : (fitB r && fitB s)
 ·rw [hr1] at HRV
  have HF1 := hid hr1
  clear hr1
  go_enter Try.func19, Try.ntmps19
  go_wp2_with fail
  refine HRV.out.mono ?_
  rintro _ w1 ⟨rfl, hb1⟩
  have z := H3.out.later hb1
  have z0 := z.cell 0 _ rfl
  have z1 := z.cell 1 _ rfl
  have f0 := z.frozen 0
  have f1 := z.frozen 1
  have QX := hid (Q0.out.trans (hb1.mono Q0.out.size))
  have HF := hid ((z.set 0 (.slice none 0 0)).set 1 (.slice none 0 0))
  have QF := hid ((QX.out.setCell (p := ⟨W.heap.size + 1 + 1, 0, none⟩) (by show W.heap.size ≤ W.heap.size + 1 + 1; omega) (.slice none 0 0)).setCell (p := ⟨W.heap.size + 1 + 1, 1, none⟩) (by show W.heap.size ≤ W.heap.size + 1 + 1; omega) (.slice none 0 0))
  have M := hid (show joinM r s r2 s2 = ([], [], 1) from by unfold joinM; rw [HF1.out, Bool.false_and, if_neg (by decide)])
  clear z
  go_wp2_with fail
  refine bodyPost_ret (results_setsB rfl rfl HF.out) rfl ?_
  exact hfin.out _ _ _ 1 _ _ M.out (KeysAt.nil _) (KeysAt.nil _) QF.out
 ·rw [hr1] at HRV
  have HF1 := hid hr1
  clear hr1
  cases hr2 : (fitB r2 && fitB s2)
  ·rw [hr2] at HR2
   have HF2 := hid hr2
   clear hr2
   go_enter Try.func19, Try.ntmps19
   go_wp2_with fail
   refine HRV.out.mono ?_
   rintro _ w1 ⟨rfl, hb1⟩
   have d0 := (H2.out.later hb1).cell 0 _ rfl
   have d1 := (H2.out.later hb1).cell 1 _ rfl
   go_wp2_with fail
   refine (HR2.out w1 (Q0.out.trans (hb1.mono Q0.out.size))).mono ?_
   rintro _ w2 ⟨rfl, hb2⟩
   have hb12 := hb1.trans (hb2.mono hb1.size)
   clear b0 b1 d0 d1
   have z := H3.out.later hb12
   have z0 := z.cell 0 _ rfl
   have z1 := z.cell 1 _ rfl
   have f0 := z.frozen 0
   have f1 := z.frozen 1
   have QX := hid (Q0.out.trans (hb12.mono Q0.out.size))
   have HF := hid ((z.set 0 (.slice none 0 0)).set 1 (.slice none 0 0))
   have QF := hid ((QX.out.setCell (p := ⟨W.heap.size + 1 + 1, 0, none⟩) (by show W.heap.size ≤ W.heap.size + 1 + 1; omega) (.slice none 0 0)).setCell (p := ⟨W.heap.size + 1 + 1, 1, none⟩) (by show W.heap.size ≤ W.heap.size + 1 + 1; omega) (.slice none 0 0))
   have M := hid (show joinM r s r2 s2 = ([], [], 1) from by unfold joinM; rw [HF1.out, HF2.out, if_neg (by decide)])
   clear z
   go_wp2_with fail
   refine bodyPost_ret (results_setsB rfl rfl HF.out) rfl ?_
   exact hfin.out _ _ _ 1 _ _ M.out (KeysAt.nil _) (KeysAt.nil _) QF.out
  ·rw [hr2] at HR2
   have HF2 := hid hr2
   clear hr2
   have M := hid (show joinM r s r2 s2 = ((makeM (r ++ r2) (s ++ s2)).1, (makeM (r ++ r2) (s ++ s2)).2.1, (makeM (r ++ r2) (s ++ s2)).2.2) from by unfold joinM; rw [HF1.out, HF2.out, if_pos (by decide)])
   have hl1 : r.length ≤ 200 ∧ s.length ≤ 200 := by
    have := HF1.out
    unfold fitB at this
    simp only [Bool.and_eq_true, decide_eq_true_eq] at this
    exact ⟨this.1.1.1, this.2.1.1⟩
   have hl2 : r2.length ≤ 200 ∧ s2.length ≤ 200 := by
    have := HF2.out
    unfold fitB at this
    simp only [Bool.and_eq_true, decide_eq_true_eq] at this
    exact ⟨this.1.1.1, this.2.1.1⟩
   have HL := hid (And.intro hl1 hl2)
   have HM := hid (fun (X : World) (x y : Value) (hx : KeysAt X x (r ++ r2)) (hy : KeysAt X y (s ++ s2)) => (rmakeG_any X x y (r ++ r2) (s ++ s2) hx hy (by rw [List.length_append]; omega) (by rw [List.length_append]; omega)).mono fun e w' h => h.ex)
   clear hl1 hl2
   generalize (makeM (r ++ r2) (s ++ s2)).1 = m1 at *
   generalize (makeM (r ++ r2) (s ++ s2)).2.1 = m2 at *
   generalize (makeM (r ++ r2) (s ++ s2)).2.2 = m3 at *
   go_enter Try.func19, Try.ntmps19
   go_wp2_with fail
   refine HRV.out.mono ?_
   rintro _ w1 ⟨rfl, hb1⟩
   have d0 := (H2.out.later hb1).cell 0 _ rfl
   have d1 := (H2.out.later hb1).cell 1 _ rfl
   go_wp2_with fail
   refine (HR2.out w1 (Q0.out.trans (hb1.mono Q0.out.size))).mono ?_
   rintro _ w2 ⟨rfl, hb2⟩
   have hb12 := hb1.trans (hb2.mono hb1.size)
   have X1 := hid (H1.out.later hb12)
   have X2 := hid (H2.out.later hb12)
   have X3 := hid (H3.out.later hb12)
   have QX := hid (Q0.out.trans (hb12.mono Q0.out.size))
   clear b0 b1 d0 d1 hb1 hb2 hb12 hV
   go_wp2_with fail
   refine wp_region_ghost [some (.pointer (some ⟨W.heap.size, 0, none⟩)), some (.slice a1 n1 c1), none, some (.pointer (some ⟨W.heap.size + 1, 0, none⟩)), some (.slice a3 n3 c3), none, some (.pointer (some ⟨W.heap.size, 1, none⟩)), some (.slice a2 n2 c2), none, some (.pointer (some ⟨W.heap.size + 1, 1, none⟩)), some (.slice a4 n4 c4), none, none, none, some (.int .i64 (m3 : Int)), none, some (.int .i64 (m3 : Int))]
    [[], [0], [0, 1], [], [3], [0, 1, 2, 3, 4], [], [6], [0, 1, 2, 3, 4, 5, 6, 7], [], [9], [0, 1, 2, 3, 4, 5, 6, 7, 8, 9, 10], [0, 1, 2, 3, 4, 5, 6, 7, 8, 9, 10, 11], [0, 1, 2, 3, 4, 5, 6, 7, 8, 9, 10, 11, 12], [0, 1, 2, 3, 4, 5, 6, 7, 8, 9, 10, 11, 12], [0, 1, 2, 3, 4, 5, 6, 7, 8, 9, 10, 11, 12, 13, 14], [0, 1, 2, 3, 4, 5, 6, 7, 8, 9, 10, 11, 12, 13, 14, 15]]
    (UR W w2 (W.heap.size + 1 + 1) r (r ++ r2) s (s ++ s2) m1 m2 (.int .i64 (m3 : Int))) hmx (by kernel_rfl) (by kernel_rfl) ?_ ?_ ?_ ?_
   ·exact fun f g wa wb h hb => h.later hb
   ·exact fun f f' g g' wa h hu => hu.same fun j hj => h j (by rcases hj with rfl | rfl | rfl | rfl | rfl | rfl | rfl <;> rfl)
   ·exact UR.later (show UR W w2 (W.heap.size + 1 + 1) r (r ++ r2) s (s ++ s2) m1 m2 (.int .i64 (m3 : Int)) (fun _ => false) (fun _ => undef) w2 from ⟨QX.out, fun _ => Below.refl _ _, fun h => absurd h (by simp), fun h => absurd h (by simp), fun h => absurd h (by simp), fun h => absurd h (by simp), fun h => absurd h (by simp), fun h => absurd h (by simp), fun h => absurd h (by simp)⟩) (Below.refl _ _).drew
   rintro f g y hU Dn
   refine GW.known _ rfl (fun hd hf => ?_) ?_
   ·clear hU Dn hd
    go_wp2_with fail
    exact ⟨rfl, rfl, Below.refl _ _⟩
   simp only [Act.put, sT, sS, sZ]
   refine GW.known _ rfl (fun hd hf => ?_) ?_
   ·have f15 : f 15 = false := (by cases h : f 15 with | false => rfl | true => exact absurd (Dn 15 h 1 (by decide)) (by rw [hf]; simp))
    have c := (X1.out.later (hU.2.1 f15)).cell 0 _ rfl
    clear hU Dn hd f15
    go_wp2_with fail
    exact ⟨rfl, rfl, Below.refl _ _⟩
   simp only [Act.put, sT, sS, sZ]
   refine GW.open rfl (fun hd hf => ?_) ?_
   ·have f15 : f 15 = false := (by cases h : f 15 with | false => rfl | true => exact absurd (Dn 15 h 2 (by decide)) (by rw [hf]; simp))
    have f5 : f 5 = false := (by cases h : f 5 with | false => rfl | true => exact absurd (Dn 5 h 2 (by decide)) (by rw [hf]; simp))
    have hB := hU.2.1 f15
    obtain ⟨v', w', happ, hrow, _, hbel⟩ := append_keys y y.heap.size (.slice none 0 0) [] (KRow.nil _ _) (Nat.le_refl _) _ _ (HKS.out.1.later (QX.out.trans (hB.mono QX.out.size))) (by simp; have := HL.out; omega)
    have hm := hU.n2 hbel f5 f15 hrow 
    clear hU Dn hd hrow hbel hB
    refine wpList_append_runK rfl (.const (.slice none 0 0)) (.tmp 16) 22 rfl _ _ _ rfl rfl happ ?_
    go_wp2
    exact ⟨rfl, hm⟩
   simp only [Act.put, sT, sS, sZ]
   refine GW.known _ rfl (fun hd hf => ?_) ?_
   ·clear hU Dn hd
    go_wp2_with fail
    exact ⟨rfl, rfl, Below.refl _ _⟩
   simp only [Act.put, sT, sS, sZ]
   refine GW.known _ rfl (fun hd hf => ?_) ?_
   ·have f15 : f 15 = false := (by cases h : f 15 with | false => rfl | true => exact absurd (Dn 15 h 4 (by decide)) (by rw [hf]; simp))
    have c := (X2.out.later (hU.2.1 f15)).cell 0 _ rfl
    clear hU Dn hd f15
    go_wp2_with fail
    exact ⟨rfl, rfl, Below.refl _ _⟩
   simp only [Act.put, sT, sS, sZ]
   refine GW.open rfl (fun hd hf => ?_) ?_
   ·have f15 : f 15 = false := (by cases h : f 15 with | false => rfl | true => exact absurd (Dn 15 h 5 (by decide)) (by rw [hf]; simp))
    have f8 : f 8 = false := (by cases h : f 8 with | false => rfl | true => exact absurd (Dn 8 h 5 (by decide)) (by rw [hf]; simp))
    have f11 : f 11 = false := (by cases h : f 11 with | false => rfl | true => exact absurd (Dn 11 h 5 (by decide)) (by rw [hf]; simp))
    have f12 : f 12 = false := (by cases h : f 12 with | false => rfl | true => exact absurd (Dn 12 h 5 (by decide)) (by rw [hf]; simp))
    have f13 : f 13 = false := (by cases h : f 13 with | false => rfl | true => exact absurd (Dn 13 h 5 (by decide)) (by rw [hf]; simp))
    have hB := hU.2.1 f15
    obtain ⟨b, hb1, hb2, hrow⟩ := hU.2.2.1 (hd 2 (by decide)) hf
    obtain ⟨v', w', happ, hrow', _, hbel⟩ := append_keys y b (g 2) r hrow hb2 _ _ (HKS.out.2.2.1.later (QX.out.trans (hB.mono QX.out.size))) (by have := HL.out; omega)
    have hm := hU.n5 (hbel.mono hb1) f8 f11 f15 (hrow'.keys (fun z hz => by rcases List.mem_append.1 hz with h | h; exact HKS.out.1.all z h; exact HKS.out.2.2.1.all z h)) QX.out.size f12 f13
    clear hU Dn hd hrow hrow' hbel hB
    refine wpList_append_runK rfl (.tmp 17) (.tmp 19) 22 rfl _ _ _ rfl rfl happ ?_
    go_wp2
    exact ⟨rfl, hm⟩
   simp only [Act.put, sT, sS, sZ]
   refine GW.known _ rfl (fun hd hf => ?_) ?_
   ·clear hU Dn hd
    go_wp2_with fail
    exact ⟨rfl, rfl, Below.refl _ _⟩
   simp only [Act.put, sT, sS, sZ]
   refine GW.known _ rfl (fun hd hf => ?_) ?_
   ·have f15 : f 15 = false := (by cases h : f 15 with | false => rfl | true => exact absurd (Dn 15 h 7 (by decide)) (by rw [hf]; simp))
    have c := (X1.out.later (hU.2.1 f15)).cell 1 _ rfl
    clear hU Dn hd f15
    go_wp2_with fail
    exact ⟨rfl, rfl, Below.refl _ _⟩
   simp only [Act.put, sT, sS, sZ]
   refine GW.open rfl (fun hd hf => ?_) ?_
   ·have f15 : f 15 = false := (by cases h : f 15 with | false => rfl | true => exact absurd (Dn 15 h 8 (by decide)) (by rw [hf]; simp))
    have f11 : f 11 = false := (by cases h : f 11 with | false => rfl | true => exact absurd (Dn 11 h 8 (by decide)) (by rw [hf]; simp))
    have hB := hU.2.1 f15
    obtain ⟨v', w', happ, hrow, _, hbel⟩ := append_keys y y.heap.size (.slice none 0 0) [] (KRow.nil _ _) (Nat.le_refl _) _ _ (HKS.out.2.1.later (QX.out.trans (hB.mono QX.out.size))) (by simp; have := HL.out; omega)
    have hm := hU.n8 hbel f11 f15 hrow (hd 5 (by decide)) hf
    clear hU Dn hd hrow hbel hB
    refine wpList_append_runK rfl (.const (.slice none 0 0)) (.tmp 22) 22 rfl _ _ _ rfl rfl happ ?_
    go_wp2
    exact ⟨rfl, hm⟩
   simp only [Act.put, sT, sS, sZ]
   refine GW.known _ rfl (fun hd hf => ?_) ?_
   ·clear hU Dn hd
    go_wp2_with fail
    exact ⟨rfl, rfl, Below.refl _ _⟩
   simp only [Act.put, sT, sS, sZ]
   refine GW.known _ rfl (fun hd hf => ?_) ?_
   ·have f15 : f 15 = false := (by cases h : f 15 with | false => rfl | true => exact absurd (Dn 15 h 10 (by decide)) (by rw [hf]; simp))
    have c := (X2.out.later (hU.2.1 f15)).cell 1 _ rfl
    clear hU Dn hd f15
    go_wp2_with fail
    exact ⟨rfl, rfl, Below.refl _ _⟩
   simp only [Act.put, sT, sS, sZ]
   refine GW.open rfl (fun hd hf => ?_) ?_
   ·have f15 : f 15 = false := (by cases h : f 15 with | false => rfl | true => exact absurd (Dn 15 h 11 (by decide)) (by rw [hf]; simp))
    have f12 : f 12 = false := (by cases h : f 12 with | false => rfl | true => exact absurd (Dn 12 h 11 (by decide)) (by rw [hf]; simp))
    have f13 : f 13 = false := (by cases h : f 13 with | false => rfl | true => exact absurd (Dn 13 h 11 (by decide)) (by rw [hf]; simp))
    have hB := hU.2.1 f15
    obtain ⟨Y, y1, y2, y3, hrow⟩ := hU.2.2.2.2.1 (hd 8 (by decide)) hf
    obtain ⟨v', w', happ, hrow', _, hbel⟩ := append_keys y Y.heap.size (g 8) s hrow y2.size _ _ (HKS.out.2.2.2.later (QX.out.trans (hB.mono QX.out.size))) (by have := HL.out; omega)
    have hm := hU.n11 (hbel.mono y3) f12 f15 (y1.later (y2.trans hbel)) (hrow'.keys (fun z hz => by rcases List.mem_append.1 hz with h | h; exact HKS.out.2.1.all z h; exact HKS.out.2.2.2.all z h)) QX.out.size f13 (hd 5 (by decide)) (hd 8 (by decide))
    clear hU Dn hd hrow hrow' hbel hB y1 y2
    refine wpList_append_runK rfl (.tmp 23) (.tmp 25) 22 rfl _ _ _ rfl rfl happ ?_
    go_wp2
    exact ⟨rfl, hm⟩
   simp only [Act.put, sT, sS, sZ]
   refine GW.open rfl (fun hd hf => ?_) ?_
   ·have f13 : f 13 = false := (by cases h : f 13 with | false => rfl | true => exact absurd (Dn 13 h 12 (by decide)) (by rw [hf]; simp))
    have f15 : f 15 = false := (by cases h : f 15 with | false => rfl | true => exact absurd (Dn 15 h 12 (by decide)) (by rw [hf]; simp))
    obtain ⟨k5, k11⟩ := hU.2.2.2.2.2.1 (hd 11 (by decide))
    have HC := HM.out y _ _ k5 k11
    have hfin := fun (w' : World) (x z : Value) (hb : Below y.heap.size y w') hk hk2 => hU.n12 hb f13 f15 (x := x) (y := z) hk hk2
    obtain ⟨p5, q5, e5, _⟩ := k5.shape
    obtain ⟨p11, q11, e11, _⟩ := k11.shape
    clear hU Dn hd k5 k11 f13 f15
    rw [e5, e11] at HC ⊢
    clear e5 e11
    generalize (r ++ r2).length = n5 at *
    generalize (s ++ s2).length = n11 at *
    replace HC := hid HC
    go_wp2_with fail
    refine HC.out.mono ?_
    rintro e u ⟨x, z, rfl, hk, hk2, hb⟩
    have hfin' := hfin u x z hb hk hk2
    clear hfin HC hk hk2 hb
    go_wp2
    exact ⟨rfl, hfin'⟩
   simp only [Act.put, sT, sS, sZ]
   refine GW.open rfl (fun hd hf => ?_) ?_
   ·obtain ⟨x, z, e, _⟩ := hU.2.2.2.2.2.2.1 (hd 12 (by decide))
    have hm := hU.n13 e
    rw [e]
    clear hU Dn hd e
    go_wp2_with fail
    exact ⟨rfl, hm⟩
   simp only [Act.put, sT, sS, sZ]
   refine GW.known _ rfl (fun hd hf => ?_) ?_
   ·obtain ⟨x, z, e, _⟩ := hU.2.2.2.2.2.2.1 (hd 12 (by decide))
    rw [e]
    clear hU Dn hd e
    go_wp2_with fail
    exact ⟨rfl, rfl, Below.refl _ _⟩
   simp only [Act.put, sT, sS, sZ]
   refine GW.open rfl (fun hd hf => ?_) ?_
   ·obtain ⟨x, z, e, k1, k2⟩ := hU.2.2.2.2.2.2.1 (hd 12 (by decide))
    obtain ⟨x', z', e', e13⟩ := hU.2.2.2.2.2.2.2.1 (hd 13 (by decide))
    rw [e] at e'
    have exz : x' = x ∧ z' = z := by
     have h := e'.symm
     simp at h
     exact h
    obtain ⟨rfl, rfl⟩ := exz
    obtain ⟨p1, q1, rfl, _⟩ := k1.shape
    obtain ⟨p2, q2, rfl, _⟩ := k2.shape
    have hz := X3.out.later (hU.2.1 hf)
    have z0 := hz.cell 0 _ rfl
    have z1 := hz.cell 1 _ rfl
    have f0 := hz.frozen 0
    have f1 := hz.frozen 1
    have hm := fun u => hU.n15 (hd 5 (by decide)) (hd 8 (by decide)) (hd 11 (by decide)) (hd 12 (by decide)) (show W.heap.size ≤ W.heap.size + 1 + 1 by omega) hz e u
    rw [e13]
    clear hU Dn hd e e' e13 k1 k2 hz
    go_wp2_with fail
    exact ⟨rfl, hm _⟩
   simp only [Act.put]
   refine GW.known _ rfl (fun hd hf => ?_) ?_
   ·clear hU Dn hd
    go_wp2_with fail
    exact ⟨rfl, rfl, Below.refl _ _⟩
   simp only [Act.put, sT, sS, sZ]
   refine GW.nil fun hall => ?_
   obtain ⟨x, z, ex, kx, kz⟩ := hU.2.2.2.2.2.2.1 (hall 12 (by decide))
   obtain ⟨x', z', ex', HB⟩ := hU.2.2.2.2.2.2.2.2 (hall 15 (by decide))
   rw [ex] at ex'
   have exz : x' = x ∧ z' = z := by
    have h := ex'.symm
    simp at h
    exact h
   obtain ⟨rfl, rfl⟩ := exz
   have HF := hid HB
   have QF := hid hU.1
   have KX := hid kx
   have KZ := hid kz
   clear hU Dn hall ex ex' HB kx kz
   go_wp2_with fail
   refine bodyPost_ret (results_setsB rfl rfl HF.out) rfl ?_
   exact hfin.out _ _ _ m3 _ _ M.out KX.out KZ.out QF.out
end Go.Proofs.Ytahjgllnfbejmaa
