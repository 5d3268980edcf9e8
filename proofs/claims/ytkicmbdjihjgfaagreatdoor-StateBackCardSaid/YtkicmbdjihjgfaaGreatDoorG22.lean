/- The laws' helper State. Conditions: the raw numbers lie in memory. -/
import Derived.Test.YtkicmbdjihjgfaaGreatDoorG21
import Derived.Test.YtkicmbdjihjgfaaGreatDoorG16
import Derived.Test.YtkicmbdjihjgfaaGreatDoorG09
import Derived.Test.YtkicmbdjihjgfaaGreatDoorG01
import Derived.Test.YtkicmbdjihjgfaaGreatDoorG04
import Derived.Test.YtkicmbdjihjgfaaGreatDoorG02
import Derived.TacticsIn
import Derived.LoopIn
import Derived.Test.YtkicmbdjihjgfaaGreatDoorG05
set_option maxRecDepth 100000
set_option maxHeartbeats 16000000
open List (setIfInBounds_toArray set_cons_succ set_cons_zero)
namespace Go.Proofs.YtkicmbdjihjgfaaGreatDoor
open Go Go.RowKit
attribute [local go_sem] Oper.semAt_some Grows wide_fn
theorem StK.nil (w : World) : StK w (.slice none 0 0) [] := ⟨0, [], rfl, RowA.nil _ _, fun p hp => by cases hp⟩
theorem info4 : (Tryz.prog.info? 34).map (·.size) = some 4 := by kernel_rfl
theorem RowsIn.load4 {W : World} {q : Addr} {p : Nat → Int} (h : RowsIn 4 W q p) : (loadVar 34 q).run Tryz.prog W = .ok (.agg #[.int .i64 (p 0), .int .i64 (p 1), .int .i64 (p 2), .int .i64 (p 3)]) W := h.load Tryz.underlying34 rfl info4
theorem state8_any (W : World) (v : Value) (zs : List Q4) (hr : RowF 4 W v zs) :
  Calls Tryz.prog 8 #[v] W fun e w' => ∃ v', e = .returned v' ∧ StK w' v' (stN zs) ∧ Below W.heap.size W w' := by
 have HR := hid hr
 obtain ⟨a, cap, rfl, hnc, hcm⟩ := hr.shape
 obtain ⟨n, hn⟩ : ∃ n, zs.length = n := ⟨_, rfl⟩
 rw [hn] at HR hnc ⊢
 have HN := hid hn
 have hlc := hid (Nat.le_trans hnc hcm)
 have HF := hid (show ∀ j, (j = 30 ∨ (j = n ∧ n ≤ 30)) → (zs.take j).foldl stepS [] = stN zs from fun j h => by
  unfold stN
  rcases h with rfl | ⟨rfl, h⟩
  ·rfl
  ·rw [List.take_of_length_le (by omega), List.take_of_length_le (by omega)])
 clear hnc hcm hn hr
 go_enter Tryz.func8, Tryz.ntmps8
 go_wp2_with fail
 go_loopw [3, 4] (fun ov i wr => ∃ k : Nat, i = .int .i64 (k : Int) ∧ k ≤ n ∧ k ≤ 30 ∧ StK wr ov ((zs.take k).foldl stepS []) ∧ Below W.heap.size W wr) (fun _ i _ => n - (intOf i).toNat)
 case atStart => exact ⟨0, rfl, by omega, by omega, StK.nil _, Below.refl _ _⟩
 case round =>
  obtain ⟨k, rfl, hkn, hk30, hrow, hq⟩ := hrel
  obtain ⟨ov, hov⟩ : ∃ ov, ov = u3 := ⟨_, rfl⟩
  subst hov
  obtain ⟨w0, hw0⟩ : ∃ w0, w0 = wr := ⟨_, rfl⟩
  subst hw0
  have HQ := hid hq
  have HROW := hid hrow
  have HK := hid (And.intro hkn hk30)
  clear hq hrow
  by_cases hk : k < n ∧ k < 30
  ·have hknI : (k : Int) < (n : Int) := by omega
   have hk30I : (k : Int) < 30 := by omega
   have hk0 : (0 : Int) ≤ (k : Int) := by omega
   obtain ⟨p, hp⟩ : ∃ p, zs[k]? = some p := ⟨_, List.getElem?_eq_getElem (by have := HN.out; omega)⟩
   obtain ⟨b, rfl, hrin⟩ := (HR.out.later HQ.out).at hp
   have LR := hrin.load4
   have CH := hid (change8_any w0 (p 0) (p 1) (p 2) (p 3) (hrin 0 (by decide)).1 (hrin 1 (by decide)).1 (hrin 2 (by decide)).1 (hrin 3 (by decide)).1)
   have HNX := hid (show (zs.take (k + 1)).foldl stepS [] = stepS ((zs.take k).foldl stepS []) p by
    rw [List.take_add_one, hp, List.foldl_append]
    rfl)
   have HIV := hid (show StI k ((zs.take k).foldl stepS []) by
    have h := stepS_inv (zs.take k) [] 0 StI.nil (by have := List.length_take_le k zs; omega)
    have := HN.out
    rwa [show 0 + (zs.take k).length = k by rw [List.length_take]; omega] at h)
   have hkk := hid hk
   clear hk hkn hk30 hp hrin
   have HST := hid (show stepS ((zs.take k).foldl stepS []) p = doL ((zs.take k).foldl stepS []) (chN (p 0) (p 1) (p 2) (p 3)) from rfl)
   generalize (zs.take k).foldl stepS [] = l at *
   go_wp2_with (refine wpList_load_known rfl _ (.tmp 22) rfl _ rfl _ LR ?_)
   refine CH.out.mono ?_
   rintro _ w1 ⟨rfl, q1⟩
   have hdo := (HIV.out.do (by have := hkk.out; omega) (p 0) (p 1) (p 2) (p 3)).1
   have DD := hid (refDo_good w1 ov l ((HROW.out.later q1).st) (fun y hy => by have := HIV.out.slots y hy; have := hkk.out; omega) (chN (p 0) (p 1) (p 2) (p 3)) (chN_ok _ _ _ _) hdo)
   have Q1 := hid (HQ.out.trans (q1.mono HQ.out.size))
   clear LR CH q1 hdo
   generalize chN (p 0) (p 1) (p 2) (p 3) = c at *
   go_wp2_with fail
   refine DD.out.mono ?_
   rintro _ w2 ⟨v2, rfl, hst, q2⟩
   have Q2 := hid (Q1.out.trans (q2.mono Q1.out.size))
   obtain ⟨V2, hV2, h6, q6⟩ := newBox w2 33 #[.int .i64 0, .int .u8 0, .int .u8 0, .int .u8 0, .int .u8 0, .int .u8 0, .int .u8 0, .int .u8 0, .int .u8 0, .int .u8 0, .int .u8 0, .int .u8 0, .int .u8 0, .int .u8 0, .int .u8 0, .int .u8 0, .int .u8 0, .int .u8 0, .int .u8 0, .int .u8 0, .int .u8 0, .int .u64 0, .int .u64 0, .int .u64 0, .int .u64 0, .int .u64 0, .int .u64 0, .int .u64 0, .int .u64 0, .int .i64 0, .string { data := #[] }]
   have hi6 := chRow (doU l c)
   have p6 := below_rowAc q6 (g := w2.heap.size) (Nat.le_refl _) (chC (doU l c))
   have ST := hid ((hst.later q6).row h6 (by decide) (chC (doU l c)))
   have QF := hid (Q2.out.trans (p6.mono Q2.out.size))
   clear DD hst q2 q6 p6
   go_wp2_with (refine wpList_store_row rfl _ (.tmp 6) (.tmp 27) rfl _ _ rfl rfl _ _ h6 hi6.1 hi6.2.1 hi6.2.2 ?_)
   go_roundw
   case rel => exact ⟨k + 1, by simp, by have := hkk.out; omega, by have := hkk.out; omega, by rw [HNX.out, HST.out]; exact ST.out, QF.out⟩
   case measure => have := hkk.out; simp [intOf]; omega
  ·by_cases h1 : k < n
   ·obtain rfl : k = 30 := by have := HK.out; omega
    have hI : (30 : Int) < (n : Int) := by omega
    have R := hid (show StK w0 ov (stN zs) from by have h := HROW.out; rw [HF.out 30 (.inl rfl)] at h; exact h)
    go_wp2_with fail
    go_ret
    exact ⟨_, rfl, R.out, HQ.out⟩
   ·obtain rfl : k = n := by have := HK.out; omega
    have hnn : ¬ (k : Int) < (k : Int) := by omega
    have R := hid (show StK w0 ov (stN zs) from by have h := HROW.out; rw [HF.out k (.inr ⟨rfl, HK.out.2⟩)] at h; exact h)
    go_wp2_with fail
    go_ret
    exact ⟨_, rfl, R.out, HQ.out⟩
end Go.Proofs.YtkicmbdjihjgfaaGreatDoor
namespace Go.Proofs.YtkicmbdjihjgfaaGreatDoor
open Go Go.RowKit
attribute [local go_sem] Oper.semAt_some Grows wide_fn eq4
theorem refAlike_any8 (W : World) (x y : Ac) (sx sy : Value) (hx : AcOk x) (hy : AcOk y) (hsx : SlotsAt W sx x.slots) (hsy : SlotsAt W sy y.slots) :
  Calls Tryz.prog 17 #[.agg (acC x sx), .agg (acC y sy)] W fun e w' => e = .returned (.bool (sameA x y)) ∧ Below W.heap.size W w' := by
 obtain ⟨a1, c1, rfl, _, _⟩ := hsx.shape
 obtain ⟨a2, c2, rfl, _, _⟩ := hsy.shape
 obtain ⟨cx, hcx⟩ : ∃ cx, acC x (.slice a1 x.slots.length c1) = cx := ⟨_, rfl⟩
 obtain ⟨cy, hcy⟩ : ∃ cy, acC y (.slice a2 y.slots.length c2) = cy := ⟨_, rfl⟩
 rw [hcx, hcy]
 have h10 := Has.new W 31 cx
 have q1 := (Below.refl W.heap.size W).alloc (Nat.le_refl _) (.cells cx 31)
 obtain ⟨W1, hW1⟩ : ∃ W1, W.alloc (.cells cx 31) = W1 := ⟨_, rfl⟩
 rw [hW1] at h10 q1
 have h21 := Has.new W1 31 cy
 have q2 := (Below.refl W1.heap.size W1).alloc (Nat.le_refl _) (.cells cy 31)
 obtain ⟨W2, hW2⟩ : ∃ W2, W1.alloc (.cells cy 31) = W2 := ⟨_, rfl⟩
 rw [hW2] at h21 q2
 have HX := (show Has W2 W.heap.size 31 (acC x (.slice a1 x.slots.length c1)) by rw [hcx]; exact h10.later q2)
 have HY := (show Has W2 W1.heap.size 31 (acC y (.slice a2 y.slots.length c2)) by rw [hcy]; exact h21)
 have Q2 := hid (q1.trans (q2.mono q1.size))
 have HEQ := hid (same_any W2 _ _ x.slots y.slots (hsx.later Q2.out) (hsy.later Q2.out))
 have hax := HX.accAdLoad
 have hay := HY.accAdLoad
 obtain ⟨x20, x21, x22, x23, x24, x25, x26⟩ := HX.acc
 obtain ⟨y20, y21, y22, y23, y24, y25, y26⟩ := HY.acc
 have he := fun X => eq20 x.at_ y.at_ hx.at_ hy.at_ X
 have hw := eqv_w x.bal y.bal hx.bal hy.bal
 have hcode := same_code x.code y.code
 have HT := hid (fun (h1 : x.at_ = y.at_) (h2 : x.bal = y.bal) (h3 : x.non = y.non) (h4 : x.code = y.code) (h5 : x.slots = y.slots) => sameA_true (show x = y by cases x; cases y; simp_all))
 have HN := hid (fun (h : x ≠ y) => sameA_false h)
 have N1 := hid (fun (h : ¬ x.at_ = y.at_) => sameA_false (show x ≠ y from fun e => h (by rw [e])))
 have N2 := hid (fun (h : ¬ x.bal = y.bal) => sameA_false (show x ≠ y from fun e => h (by rw [e])))
 have N3 := hid (fun (h : ¬ x.non = y.non) => sameA_false (show x ≠ y from fun e => h (by rw [e])))
 have N4 := hid (fun (h : ¬ x.code = y.code) => sameA_false (show x ≠ y from fun e => h (by rw [e])))
 have N5 := hid (fun (h : ¬ x.slots = y.slots) => sameA_false (show x ≠ y from fun e => h (by rw [e])))
 obtain ⟨res, hres⟩ : ∃ res, sameA x y = res := ⟨_, rfl⟩
 rw [hres] at HT HN N1 N2 N3 N4 N5
 rw [hres]
 clear HN HX HY hcx hcy h10 h21 q1 q2 hx hy hsx hsy hres
 generalize adC x.at_ = ax at *
 generalize adC y.at_ = ay at *
 generalize lim x.bal 0 = l0 at *
 generalize lim x.bal 1 = l1 at *
 generalize lim x.bal 2 = l2 at *
 generalize lim x.bal 3 = l3 at *
 generalize lim y.bal 0 = m0 at *
 generalize lim y.bal 1 = m1 at *
 generalize lim y.bal 2 = m2 at *
 generalize lim y.bal 3 = m3 at *
 replace hcode := hid hcode
 by_cases h1 : x.at_ = y.at_
 ·rw [decide_eq_true h1] at he
  have H1 := hid h1
  clear h1 N1
  by_cases h2 : x.bal = y.bal
  ·rw [decide_eq_true h2] at hw
   have H2 := hid h2
   clear h2 N2
   by_cases h3 : x.non = y.non
   ·have h3I : (x.non == y.non) = true := by simp [h3]
    have H3 := hid h3
    clear h3 N3
    generalize x.non = n1 at *
    generalize y.non = n2 at *
    by_cases h4 : x.code = y.code
    ·have h4I : (x.code.toList == y.code.toList) = true := hcode.out.2 h4
     have H4 := hid h4
     clear h4 N4
     generalize x.code = d1 at *
     generalize y.code = d2 at *
     generalize x.slots.length = k1 at *
     generalize y.slots.length = k2 at *
     go_enter Tryz.func17, Tryz.ntmps17
     go_wp2_with (first | (refine wpList_load_known rfl _ (.tmp 5) rfl _ rfl _ hax ?_) | (refine wpList_load_known rfl _ (.tmp 7) rfl _ rfl _ hay ?_))
     refine HEQ.out.mono ?_
     rintro _ w3 ⟨rfl, q3⟩
     have Q3 := hid (Q2.out.trans (q3.mono Q2.out.size))
     by_cases h5 : x.slots = y.slots
     ·have E := hid (HT.out H1.out H2.out H3.out H4.out h5)
      rw [decide_eq_true h5]
      clear h5 q3 HEQ hW1 hW2
      go_wp2_with fail
      go_ret
      exact ⟨by rw [E.out]; rfl, Q3.out⟩
     ·have E := hid (N5.out h5)
      rw [decide_eq_false h5]
      clear h5 q3 HEQ hW1 hW2
      go_wp2_with fail
      go_ret
      exact ⟨by rw [E.out]; rfl, Q3.out⟩
    ·have h4I : (x.code.toList == y.code.toList) = false := by
      cases hb : (x.code.toList == y.code.toList) with
      | false => rfl
      | true => exact absurd (hcode.out.1 hb) h4
     have E := hid (N4.out h4)
     clear h4 N4
     generalize x.code = d1 at *
     generalize y.code = d2 at *
     generalize x.slots.length = k1 at *
     generalize y.slots.length = k2 at *
     go_enter Tryz.func17, Tryz.ntmps17
     go_wp2_with (first | (refine wpList_load_known rfl _ (.tmp 5) rfl _ rfl _ hax ?_) | (refine wpList_load_known rfl _ (.tmp 7) rfl _ rfl _ hay ?_))
     go_ret
     exact ⟨by rw [E.out]; rfl, Q2.out⟩
   ·have h3I : (x.non == y.non) = false := by simpa using h3
    have E := hid (N3.out h3)
    clear h3 N3
    generalize x.non = n1 at *
    generalize y.non = n2 at *
    go_enter Tryz.func17, Tryz.ntmps17
    go_wp2_with (first | (refine wpList_load_known rfl _ (.tmp 5) rfl _ rfl _ hax ?_) | (refine wpList_load_known rfl _ (.tmp 7) rfl _ rfl _ hay ?_))
    go_ret
    exact ⟨by rw [E.out]; rfl, Q2.out⟩
  ·rw [decide_eq_false h2] at hw
   have E := hid (N2.out h2)
   clear h2 N2
   go_enter Tryz.func17, Tryz.ntmps17
   go_wp2_with (first | (refine wpList_load_known rfl _ (.tmp 5) rfl _ rfl _ hax ?_) | (refine wpList_load_known rfl _ (.tmp 7) rfl _ rfl _ hay ?_))
   go_ret
   exact ⟨by rw [E.out]; rfl, Q2.out⟩
 ·rw [decide_eq_false h1] at he
  have E := hid (N1.out h1)
  clear h1 N1
  go_enter Tryz.func17, Tryz.ntmps17
  go_wp2_with (first | (refine wpList_load_known rfl _ (.tmp 5) rfl _ rfl _ hax ?_) | (refine wpList_load_known rfl _ (.tmp 7) rfl _ rfl _ hay ?_))
  go_ret
  exact ⟨by rw [E.out]; rfl, Q2.out⟩
theorem sameS_len {l m : List Ac} (h : l.length ≠ m.length) : sameS l m = false := sameS_false fun e => h (by rw [e])
theorem sameS_at {l m : List Ac} {k : Nat} {x y : Ac} (hx : l[k]? = some x) (hy : m[k]? = some y) (h : sameA x y = false) : sameS l m = false := sameS_false fun e => by
 subst e
 rw [hx] at hy
 injection hy with hy
 rw [sameA_true hy] at h
 cases h
theorem sameA_eq {x y : Ac} (h : sameA x y = true) : x = y := Classical.byContradiction fun hn => by rw [sameA_false hn] at h; cases h
theorem refSame_any8 (W : World) (sa sb : Value) (la lb : List Ac) (ha : StAt W sa la) (hb : StAt W sb lb) :
  Calls Tryz.prog 13 #[sa, sb] W fun e w' => e = .returned (.bool (sameS la lb)) ∧ Below W.heap.size W w' := by
 have hmx : Tryz.prog.follows .mixedOrders = true := by kernel_rfl
 obtain ⟨a, cap, rfl, hnc, hcm⟩ := ha.shape
 obtain ⟨a', cap', rfl, hnc', hcm'⟩ := hb.shape
 have HA := hid ha
 have HB := hid hb
 obtain ⟨n, hn⟩ : ∃ n, la.length = n := ⟨_, rfl⟩
 obtain ⟨m, hm⟩ : ∃ m, lb.length = m := ⟨_, rfl⟩
 rw [hn] at HA hnc ⊢
 rw [hm] at HB ⊢
 have HN := hid hn
 have HM := hid hm
 have hlc := hid (Nat.le_trans hnc hcm)
 clear ha hb hnc hcm hn hm hnc' hcm'
 have hfin := hid (show ∀ X v, Below W.heap.size W X → sameS la lb = v → (Ending.returned (.bool v) = .returned (.bool (sameS la lb)) ∧ Below W.heap.size W X) from fun X v hX h => ⟨by rw [h], hX⟩)
 obtain ⟨Post, hPost⟩ : ∃ Post : Ending → World → Prop, (fun (e : Ending) (w' : World) => e = .returned (.bool (sameS la lb)) ∧ Below W.heap.size W w') = Post := ⟨_, rfl⟩
 replace hfin := hid (show ∀ X v, Below W.heap.size W X → sameS la lb = v → Post (.returned (.bool v)) X by rw [← hPost]; exact hfin.out)
 rw [hPost]
 clear hPost
 by_cases hnm : n = m
 ·subst hnm
  go_enter Tryz.func13, Tryz.ntmps13
  go_wp2_with fail
  go_loopw [5] (fun i wr => ∃ k : Nat, k ≤ n ∧ i = .int .i64 (k : Int) ∧ (∀ (j : Nat) (x y : Ac), j < k → la[j]? = some x → lb[j]? = some y → x = y) ∧ Below W.heap.size W wr) (fun i _ => n - (intOf i).toNat)
  case atStart => exact ⟨0, by omega, rfl, fun j x y h => absurd h (by omega), Below.refl _ _⟩
  case round =>
   obtain ⟨k, hk, rfl, hlt, hq⟩ := hrel
   have HLT := hid hlt
   have HQ := hid hq
   clear hlt hq
   by_cases hkn : k < n
   ·have hknI : (k : Int) < (n : Int) := by omega
    have hk0 : (0 : Int) ≤ (k : Int) := by omega
    have hkb : (k : Int) ≤ 9223372036854775806 := by have := hlc.out; omega
    obtain ⟨x, hx⟩ : ∃ x, la[k]? = some x := ⟨_, List.getElem?_eq_getElem (by have := HN.out; omega)⟩
    obtain ⟨y, hy⟩ : ∃ y, lb[k]? = some y := ⟨_, List.getElem?_eq_getElem (by have := HM.out; omega)⟩
    obtain ⟨b, sx, rfl, ax⟩ := (HA.out.later HQ.out).at hx
    obtain ⟨b', sy, rfl, ay⟩ := (HB.out.later HQ.out).at hy
    have LX := hid (show ∀ z : World, Grows wr z → (loadVar 31 (b.add (k * 27))).run Tryz.prog z = .ok (.agg (acC x sx)) z from fun z hz => by obtain ⟨q, rfl⟩ := hz; exact (ax.later q.below).load)
    have LY := hid (show ∀ z : World, Grows wr z → (loadVar 31 (b'.add (k * 27))).run Tryz.prog z = .ok (.agg (acC y sy)) z from fun z hz => by obtain ⟨q, rfl⟩ := hz; exact (ay.later q.below).load)
    have KA := hid (fun z : Ext wr => Ext.at (refAlike_any8 z.w x y sx sy (HA.out.ok hx) (HB.out.ok hy) (ax.later z.below).slots (ay.later z.below).slots))
    have HX := hid (And.intro hx hy)
    have HK := hid hkn
    clear hx hy hk hkn ax ay
    generalize acC x sx = cx at *
    generalize acC y sy = cy at *
    obtain ⟨r, hr⟩ : ∃ r, sameA x y = r := ⟨_, rfl⟩
    rw [hr] at KA
    have HR := hid hr
    clear hr
    cases r with
    | false =>
     have hno := hid (show sameS la lb = false from sameS_at HX.out.1 HX.out.2 HR.out)
     go_wp2_with fail
     refine wp_region_quietL (C := Grows wr) hmx (by kernel_rfl) (grows_refl wr) ?_
     repeat (first | (with_reducible refine wpQuiet_load rfl 31 _ rfl _ rfl _ LX.out ?_; simp only [Act.put, setIfInBounds_toArray, set_cons_succ, set_cons_zero]) | (with_reducible refine wpQuiet_load rfl 31 _ rfl _ rfl _ LY.out ?_; simp only [Act.put, setIfInBounds_toArray, set_cons_succ, set_cons_zero]) | (go_big_quiet_step (with_reducible exact KA.out _)))
     refine wpQuiet_nil ?_
     rintro _ ⟨z, rfl⟩
     have HE := hid (HQ.out.trans (z.below.mono HQ.out.size))
     clear LX LY KA
     go_wp2_with fail
     exact hfin.out _ _ HE.out hno.out
    | true =>
     have HXY := hid (sameA_eq HR.out)
     go_wp2_with fail
     refine wp_region_quietL (C := Grows wr) hmx (by kernel_rfl) (grows_refl wr) ?_
     repeat (first | (with_reducible refine wpQuiet_load rfl 31 _ rfl _ rfl _ LX.out ?_; simp only [Act.put, setIfInBounds_toArray, set_cons_succ, set_cons_zero]) | (with_reducible refine wpQuiet_load rfl 31 _ rfl _ rfl _ LY.out ?_; simp only [Act.put, setIfInBounds_toArray, set_cons_succ, set_cons_zero]) | (go_big_quiet_step (with_reducible exact KA.out _)))
     refine wpQuiet_nil ?_
     rintro _ ⟨z, rfl⟩
     have HE := hid (HQ.out.trans (z.below.mono HQ.out.size))
     clear LX LY KA
     go_wp2_with fail
     go_roundw
     case rel =>
      refine ⟨k + 1, by have := HK.out; omega, by simp, fun j x' y' hj h1 h2 => ?_, HE.out⟩
      by_cases hjk : j < k
      ·exact HLT.out j x' y' hjk h1 h2
      ·obtain rfl : j = k := by omega
       rw [HX.out.1] at h1
       rw [HX.out.2] at h2
       injection h1 with h1
       injection h2 with h2
       subst h1 h2
       exact HXY.out
     case measure => have := HK.out; simp [intOf]; omega
   ·obtain rfl : k = n := by omega
    have hkk : ¬ (k : Int) < (k : Int) := by omega
    have hyes := hid (show sameS la lb = true from sameS_true (list_same HN.out HM.out fun j x y hx hy => HLT.out j x y (by have := (List.getElem?_eq_some_iff.1 hx).1; have := HN.out; omega) hx hy))
    clear hk hkn
    go_wp2_with fail
    exact hfin.out _ _ HQ.out hyes.out
 ·have hnI : ((n : Int) == (m : Int)) = false := by rw [beq_eq_false_iff_ne]; omega
  have hno := hid (show sameS la lb = false from sameS_len (by rw [HN.out, HM.out]; exact hnm))
  clear hnm
  go_enter Tryz.func13, Tryz.ntmps13
  go_wp2_with fail
  exact hfin.out _ _ (Below.refl _ _) hno.out
end Go.Proofs.YtkicmbdjihjgfaaGreatDoor
namespace Go.Proofs.YtkicmbdjihjgfaaGreatDoor
inductive It where
 | mk (list : Bool) (bytes : ByteArray) (kids : List It)
def It.kids : It → List It
 | .mk _ _ ks => ks
def It.bytes : It → ByteArray
 | .mk _ b _ => b
def It.list : It → Bool
 | .mk l _ _ => l
theorem It.lt_of_kid {l : Bool} {b : ByteArray} {ks : List It} {k : It} (h : k ∈ ks) : SizeOf.sizeOf k < SizeOf.sizeOf (It.mk l b ks) := by
 have := List.sizeOf_lt_of_mem h
 simp only [It.mk.sizeOf_spec]
 omega
theorem It.kid_lt {t k : It} (h : k ∈ t.kids) : SizeOf.sizeOf k < SizeOf.sizeOf t := by
 obtain ⟨l, b, ks⟩ := t
 exact It.lt_of_kid h
theorem It.induct {P : It → Prop} (h : ∀ t, (∀ k ∈ t.kids, P k) → P t) : ∀ t, P t := by
 have H : ∀ (n : Nat) (t : It), SizeOf.sizeOf t < n → P t := by
  intro n
  induction n with
  | zero => intro t h; omega
  | succ n ih => intro t ht; exact h t (fun k hk => ih k (by have := It.kid_lt hk; omega))
 exact fun t => H _ t (Nat.lt_succ_self _)
def val256 : Nat → List UInt8 → Nat
 | n, [] => n
 | n, c :: r => val256 (n * 256 + c.toNat) r
def noNought : List UInt8 → List UInt8
 | [] => []
 | c :: r => if c = 0 then noNought r else c :: r
def digs (n : Nat) : List UInt8 := if h : n = 0 then [] else digs (n / 256) ++ [UInt8.ofNat (n % 256)]
decreasing_by omega
def headL (kind n : Nat) : List UInt8 := if n ≤ 55 then [UInt8.ofNat (kind + n)] else UInt8.ofNat (kind + 55 + (digs n).length) :: digs n
def bareB (l : List UInt8) : Bool := match l with
 | [c] => decide (c.toNat < 128)
 | _ => false
mutual
def encI : It → List UInt8
 | .mk l b ks => if l then headL 192 (encL ks).length ++ encL ks else if bareB b.data.toList then b.data.toList else headL 128 b.data.toList.length ++ b.data.toList
def encL : List It → List UInt8
 | [] => []
 | k :: ks => encI k ++ encL ks
end
mutual
def countI : It → Nat
 | .mk _ _ ks => 1 + countL ks
def countL : List It → Nat
 | [] => 0
 | k :: ks => countI k + countL ks
end
theorem countI_eq (t : It) : countI t = 1 + countL t.kids := by
 obtain ⟨l, b, ks⟩ := t
 rw [countI]
 rfl
theorem countI_pos (t : It) : 1 ≤ countI t := by rw [countI_eq]; omega
def RightI : Nat → It → Prop
 | 0, _ => False
 | d + 1, t => (t.list = true → t.bytes = ⟨#[]⟩) ∧ (t.list = false → t.kids.length = 0) ∧ ∀ k ∈ t.kids, RightI d k
end Go.Proofs.YtkicmbdjihjgfaaGreatDoor
namespace Go.Proofs.YtkicmbdjihjgfaaGreatDoor
open Go Go.RowKit
mutual
def ItemAt (W : World) : It → Value → Prop
 | .mk l b ks, v => ∃ a cap, v = .agg #[.bool l, .string b, .slice a ks.length cap] ∧ ks.length ≤ 1099511627776 ∧ b.size ≤ 140737488355328 ∧ (ks = [] ∨ ∃ g o, a = some ⟨g, o, none⟩ ∧ KidsAt W ks g o)
def KidsAt (W : World) : List It → Nat → Nat → Prop
 | [], _, _ => True
 | k :: ks, g, o => (∃ v0 v1 v2, W.cell? ⟨g, o, none⟩ = some v0 ∧ W.cell? ⟨g, o + 1, none⟩ = some v1 ∧ W.cell? ⟨g, o + 2, none⟩ = some v2 ∧ ItemAt W k (.agg #[v0, v1, v2])) ∧ KidsAt W ks g (o + 3)
end
theorem ltCell {W : World} {b j : Nat} {v : Value} (h : W.cell? ⟨b, j, none⟩ = some v) : b < W.heap.size := by
 rcases Nat.lt_or_ge b W.heap.size with h' | h'
 ·exact h'
 ·simp [World.cell?, Array.getElem?_eq_none h'] at h
mutual
theorem ItemAt.later {W X : World} (hb : Below W.heap.size W X) : ∀ {t : It} {v : Value}, ItemAt W t v → ItemAt X t v
 | .mk l b ks, v, h => by
  unfold ItemAt at h ⊢
  obtain ⟨a, cap, hv, hn, hs, hk⟩ := h
  refine ⟨a, cap, hv, hn, hs, ?_⟩
  rcases hk with h0 | ⟨g, o, ha, hk⟩
  ·exact .inl h0
  ·exact .inr ⟨g, o, ha, KidsAt.later hb hk⟩
theorem KidsAt.later {W X : World} (hb : Below W.heap.size W X) : ∀ {ks : List It} {g o : Nat}, KidsAt W ks g o → KidsAt X ks g o
 | [], _, _, _ => by unfold KidsAt; trivial
 | k :: ks, g, o, h => by
  unfold KidsAt at h ⊢
  obtain ⟨⟨v0, v1, v2, h0, h1, h2, hk⟩, hr⟩ := h
  exact ⟨⟨v0, v1, v2, (hb.cell (p := ⟨g, o, none⟩) (ltCell h0)).trans h0, (hb.cell (p := ⟨g, o + 1, none⟩) (ltCell h0)).trans h1, (hb.cell (p := ⟨g, o + 2, none⟩) (ltCell h0)).trans h2, ItemAt.later hb hk⟩, KidsAt.later hb hr⟩
end
theorem KidsAt.get {W : World} : ∀ {ks : List It} {g o : Nat} (_ : KidsAt W ks g o) (j : Nat) (k : It), ks[j]? = some k →
  ∃ v0 v1 v2, W.cell? ⟨g, o + j * 3, none⟩ = some v0 ∧ W.cell? ⟨g, o + j * 3 + 1, none⟩ = some v1 ∧ W.cell? ⟨g, o + j * 3 + 2, none⟩ = some v2 ∧ ItemAt W k (.agg #[v0, v1, v2])
 | [], _, _, _, j, k, h => by simp at h
 | k0 :: ks, g, o, hK, 0, k, h => by
  unfold KidsAt at hK
  simp at h
  subst h
  simpa using hK.1
 | k0 :: ks, g, o, hK, j + 1, k, h => by
  unfold KidsAt at hK
  have h' : ks[j]? = some k := by simpa using h
  obtain ⟨v0, v1, v2, h0, h1, h2, hi⟩ := KidsAt.get hK.2 j k h'
  rw [show o + 3 + j * 3 = o + (j + 1) * 3 by omega] at h0 h1 h2
  exact ⟨v0, v1, v2, h0, h1, h2, hi⟩
theorem ItemAt.open {W : World} {t : It} {v : Value} (h : ItemAt W t v) :
  ∃ a cap, v = .agg #[.bool t.list, .string t.bytes, .slice a t.kids.length cap] ∧ t.kids.length ≤ 1099511627776 ∧ t.bytes.size ≤ 140737488355328 ∧ (t.kids = [] ∨ ∃ g o, a = some ⟨g, o, none⟩ ∧ KidsAt W t.kids g o) := by
 obtain ⟨l, b, ks⟩ := t
 unfold ItemAt at h
 exact h
theorem cell_block {W : World} {b j : Nat} {v : Value} (h : W.cell? ⟨b, j, none⟩ = some v) : ∃ o, W.heap[b]? = some o ∧ o.isCells = true := by
 unfold World.cell? at h
 rcases ho : W.heap[b]? with _ | o
 ·simp [ho] at h
 ·refine ⟨o, rfl, ?_⟩
  cases o <;> simp_all [Obj.isCells]
theorem KidsAt.get3 {W : World} {ks : List It} {g o : Nat} (hK : KidsAt W ks g o) (j : Nat) (k : It) (h : ks[j]? = some k) :
  ∃ l b a n cap, W.cell? ⟨g, o + j * 3, none⟩ = some (.bool l) ∧ W.cell? ⟨g, o + j * 3 + 1, none⟩ = some (.string b) ∧ W.cell? ⟨g, o + j * 3 + 2, none⟩ = some (.slice a n cap) ∧ ItemAt W k (.agg #[.bool l, .string b, .slice a n cap]) := by
 obtain ⟨v0, v1, v2, h0, h1, h2, hi⟩ := hK.get j k h
 obtain ⟨a, cap, hv, _⟩ := hi.open
 injection hv with hv
 injection hv with hv
 injection hv with e0 hv
 injection hv with e1 hv
 injection hv with e2 hv
 subst e0 e1 e2
 exact ⟨_, _, _, _, _, h0, h1, h2, hi⟩
end Go.Proofs.YtkicmbdjihjgfaaGreatDoor
namespace Go.Proofs.YtkicmbdjihjgfaaGreatDoor
open Go Go.RowKit
attribute [local go_sem] Oper.semAt_some Grows wide_fn
noncomputable def rightB (d : Nat) (t : It) : Bool := @decide (RightI d t) (Classical.propDecidable _)
theorem rightB_iff (d : Nat) (t : It) : rightB d t = true ↔ RightI d t := by unfold rightB; exact @decide_eq_true_iff _ (Classical.propDecidable _)
theorem rightB_false {d : Nat} {t : It} (h : ¬ RightI d t) : rightB d t = false := by
 rcases hb : rightB d t with _ | _
 ·rfl
 ·exact absurd ((rightB_iff d t).1 hb) h
theorem bytes_ne {b c : ByteArray} (h : ¬ b = c) : (b.toList == c.toList) = false := by
 rcases hx : (b.toList == c.toList) with _ | _
 ·rfl
 ·have e := eq_of_beq hx
  rw [ByteArray.toList_eq, ByteArray.toList_eq] at e
  exact absurd (ByteArray.ext (Array.toList_inj.1 e)) h
def KidsIn (W : World) (ks : List It) (a : Option Addr) : Prop := ks = [] ∨ ∃ g o, a = some ⟨g, o, none⟩ ∧ KidsAt W ks g o
theorem KidsIn.later {W X : World} (hb : Below W.heap.size W X) {ks : List It} {a : Option Addr} (h : KidsIn W ks a) : KidsIn X ks a := by
 rcases h with h | ⟨g, o, e, h⟩
 ·exact .inl h
 ·exact .inr ⟨g, o, e, h.later hb⟩
theorem countL_take : ∀ (ks : List It) (k : Nat) (x : It), ks[k]? = some x → countL (ks.take (k + 1)) = countL (ks.take k) + countI x
 | [], k, x, h => by simp at h
 | y :: ks, 0, x, h => by
  simp at h
  subst h
  simp [countL]
 | y :: ks, k + 1, x, h => by
  have h' : ks[k]? = some x := by simpa using h
  have := countL_take ks k x h'
  simp only [List.take_succ_cons, countL] at this ⊢
  omega
theorem countL_part : ∀ (ks : List It) (k : Nat), countL (ks.take k) ≤ countL ks
 | [], k => by simp [countL]
 | y :: ks, 0 => by simp [countL]
 | y :: ks, k + 1 => by
  have := countL_part ks k
  simp only [List.take_succ_cons, countL]
  omega
mutual
def preI : Nat → It → List (Nat × It)
 | d, .mk l b ks => (d, .mk l b ks) :: preL (d + 1) ks
def preL : Nat → List It → List (Nat × It)
 | _, [] => []
 | d, k :: ks => preI d k ++ preL d ks
end
theorem preI_eq (d : Nat) (t : It) : preI d t = (d, t) :: preL (d + 1) t.kids := by
 obtain ⟨l, b, ks⟩ := t
 rw [preI]
 rfl
mutual
theorem preI_length : ∀ (d : Nat) (t : It), (preI d t).length = countI t
 | d, .mk l b ks => by rw [preI, countI, List.length_cons, preL_length (d + 1) ks]; omega
theorem preL_length : ∀ (d : Nat) (ts : List It), (preL d ts).length = countL ts
 | d, [] => by simp [preL, countL]
 | d, k :: ks => by rw [preL, countL, List.length_append, preI_length d k, preL_length d ks]
end
theorem preL_at : ∀ (d : Nat) (ks : List It) (j : Nat) (x : It) (i : Nat), ks[j]? = some x → i < countI x → (preL d ks)[countL (ks.take j) + i]? = (preI d x)[i]?
 | d, [], j, x, i, h, _ => by simp at h
 | d, k :: ks, 0, x, i, h, hi => by
  simp at h
  subst h
  rw [preL, show (countL ((k :: ks).take 0)) = 0 by simp [countL], Nat.zero_add, List.getElem?_append_left (by rw [preI_length]; exact hi)]
 | d, k :: ks, j + 1, x, i, h, hi => by
  have h' : ks[j]? = some x := by simpa using h
  rw [preL, List.take_succ_cons, countL, List.getElem?_append_right (by rw [preI_length]; omega), preI_length, show countI k + countL (ks.take j) + i - countI k = countL (ks.take j) + i by omega]
  exact preL_at d ks j x i h' hi
theorem countI_kid {t k : It} (h : k ∈ t.kids) : countI k + 1 ≤ countI t := by
 rw [countI_eq t]
 obtain ⟨j, hj⟩ := List.getElem?_of_mem h
 have h1 := countL_take t.kids j k hj
 have h2 := countL_part t.kids (j + 1)
 omega
def Kd (n : Nat) (A X : World) : Prop := Below n A X ∧ ∀ (b : Nat) (cs : Array Value) (h : Nat × Nat), n ≤ b → A.heap[b]? = some (.cells cs 78 h) → X.heap[b]? = some (.cells cs 78 h)
theorem Kd.refl (n : Nat) (A : World) : Kd n A A := ⟨Below.refl _ _, fun _ _ _ _ h => h⟩
theorem Kd.trans {n : Nat} {A B C : World} (h : Kd n A B) (k : Kd n B C) : Kd n A C := ⟨h.1.trans k.1, fun b cs m hb hA => k.2 b cs m hb (h.2 b cs m hb hA)⟩
theorem Kd.grow {n : Nat} {A X : World} (h : Below A.heap.size A X) (hn : n ≤ A.heap.size) : Kd n A X := ⟨h.mono hn, fun b _ _ _ hA => (h.block b (Array.getElem?_eq_some_iff.1 hA).1).trans hA⟩
theorem Kd.has {n : Nat} {A X : World} (h : Kd n A X) {B : Nat} {cs : Array Value} (hA : Has A B 78 cs) : Has X B 78 cs := by
 rcases Nat.lt_or_ge B n with hB | hB
 ·exact (h.1.block B hB).trans hA
 ·exact h.2 B cs (0, 0) hB hA
theorem Kd.put {n : Nat} (W : World) (l : Nat) (o o' : Obj) (hn : n ≤ l) (hl : W.heap[l]? = some o) (ho : o.isCells = false) : Kd n W (W.putObj l o') :=
 ⟨⟨rfl, rfl, rfl, by simp, fun k hk => World.putObj_heap_other (by omega)⟩, fun b cs h _ hA => (World.putObj_heap_other (fun e => by
  subst e
  rw [hl] at hA
  cases hA
  cases ho)).trans hA⟩
theorem roundIn_anyR {n m : Nat} {P : Program} {l : Nat} {f : FuncId} {tmps : Array Value} {assign body : Code} {w : World} {R : Ending → World → Prop} (h : RoundIn Fence.wide n P l f tmps assign body w R) : RoundIn Fence.wide m P l f tmps assign body w R :=
 ⟨h.1, fun c cs _ => h.2 c cs (room_wide _)⟩
theorem yieldAt_anyR {n m : Nat} {P : Program} {l : Nat} {args : Array Value} {W : World} {R : Ending → World → Prop} (h : YieldAt Fence.wide n P l args W R) : YieldAt Fence.wide m P l args W R := by
 obtain ⟨fn, tmps, assign, body, h1, h2⟩ := h
 exact ⟨fn, tmps, assign, body, h1, roundIn_anyR h2⟩
def EI (w0 : World) (d : Nat) (t : It) (k : Nat) (args : Array Value) (_ : World) : Prop := ∃ d' x v, (preI d t)[k]? = some (d', x) ∧ args = #[.int .i64 ((d' : Nat) : Int), v] ∧ ItemAt w0 x v
def TellP (t : It) (k0 n0 : Nat) (J Jx : Nat → World → Prop) (W : World) (e : Ending) (W' : World) : Prop :=
 (e = .returned (.bool true) ∧ J (k0 + countI t) W' ∧ Kd n0 W W') ∨ (e = .returned (.bool false) ∧ ∃ k, k < countI t ∧ Jx (k0 + k) W')
def TellAt (t : It) : Prop := ∀ (w0 : World) (v : Value), ItemAt w0 t v → ∀ (l m d k0 : Nat) (J Jx : Nat → World → Prop) (W : World), d + countI t ≤ 1099511627776 → Below w0.heap.size w0 W →
 (∀ s A X, J s A → Below A.heap.size A X → J s X) → (∀ s A X, Jx s A → Below A.heap.size A X → Jx s X) →
 (∀ k args W1, k < countI t → J (k0 + k) W1 → EI w0 d t k args W1 → YieldAt Fence.wide m Tryz.prog l args W1 fun e W' =>
  (e = .returned (.bool true) ∧ J (k0 + k + 1) W' ∧ Kd w0.heap.size W1 W') ∨ (e = .returned (.bool false) ∧ Jx (k0 + k) W')) →
 J k0 W →
 Calls Tryz.prog 98 #[v, .int .i64 (d : Int), .func (.yield l) #[] #[]] W (TellP t k0 w0.heap.size J Jx W)
theorem tell_step (t : It) (IH : ∀ k ∈ t.kids, TellAt k) : TellAt t := by
 intro w0 v ht l m d k0 J Jx W hd hW hJA hJxA hY h0
 obtain ⟨a, cap, rfl, hn, hs, hk⟩ := ht.open
 have hY0 := hY 0 #[.int .i64 (d : Int), .agg #[.bool t.list, .string t.bytes, .slice a t.kids.length cap]]
 refine (callsIn_wide (n := 4)).1 ?_
 refine callsIn_of_wp Tryz.func98 rfl trivial ?_ rfl
 simp only [Tryz.ntmps98, List.size_toArray, List.length_cons, List.length_nil, Nat.reduceAdd, Nat.reduceSub, Array.replicate_succ, Array.replicate_zero, List.push_toArray, List.append_toArray, List.nil_append, List.cons_append]
 obtain ⟨W1, hW1, LX, QW⟩ := newBox W 78 #[.bool t.list, .string t.bytes, .slice a t.kids.length cap]
 have J1 := hJA _ _ _ h0 QW
 have hW0 := hW.trans (QW.mono hW.size)
 have kd1 := Kd.grow QW hW.size
 obtain ⟨fn, tmps, assign, body, hy, hR⟩ := hY0 W1 (by have := countI_pos t; omega) J1 ⟨d, t, _, by rw [preI_eq]; rfl, rfl, ht⟩
 have c0 := LX.cell 0 _ rfl
 have c1 := LX.cell 1 _ rfl
 have c2 := LX.cell 2 _ rfl
 have HY := hid hY
 have HJ := hid (And.intro hJA hJxA)
 have HK := hid hk
 have HI := hid IH
 have HT := hid ht
 have HC := hid (countI_eq t)
 have HCT := hid (show ∀ k ∈ t.kids, countI k + 1 ≤ countI t from fun k h => countI_kid h)
 have HCP := hid (show 0 < countI t from countI_pos t)
 have HP := hid (preI_eq d t)
 replace LX := hid LX
 replace QW := hid QW
 replace hW0 := hid hW0
 replace kd1 := hid kd1
 replace hW := hid hW
 clear hY hY0 hJA hJxA hk IH h0 J1 ht
 generalize t.list = tl at *
 generalize t.bytes = b at *
 generalize t.kids = ks at *
 obtain ⟨n, en⟩ : ∃ n, ks.length = n := ⟨_, rfl⟩
 rw [en] at hn hy LX hW1 c2 ⊢
 replace en := hid en
 gi_wp2_with fail
 refine (roundIn_anyR hR).mono ?_
 have HEND : ∀ (k : Nat) (X : World), k < countI t → Jx (k0 + k) X → TellP t k0 w0.heap.size J Jx W (.returned (.bool false)) X := fun k X h1 h2 => .inr ⟨rfl, k, h1, h2⟩
 replace HEND := hid HEND
 rintro e W2 (⟨rfl, hJ2, hk2⟩ | ⟨rfl, hJx2⟩)
 ·have L2 := hk2.has LX.out
  have kd2 := hid (kd1.out.trans hk2)
  have c0 := L2.cell 0 _ rfl
  have c1 := L2.cell 1 _ rfl
  have c2 := L2.cell 2 _ rfl
  replace L2 := hid L2
  replace hJ2 := hid hJ2
  have hsz2 := hid (Nat.lt_of_lt_of_le LX.out.lt hk2.1.size)
  clear hk2 hR hy LX QW hW0 kd1 hW1
  gi_wp2_with fail
  gi_loopw [17] (fun i wr => ∃ k : Nat, k ≤ n ∧ i = .int .i64 (k : Int) ∧ J (k0 + (1 + countL (ks.take k))) wr ∧ Kd w0.heap.size W wr) (fun i _ => n - (intOf i).toNat)
  case atStart => exact ⟨0, by omega, rfl, by rw [show countL (ks.take 0) = 0 by simp [countL]]; exact hJ2.out, kd2.out⟩
  case round =>
   clear hJ2 kd2 L2 c0 c1 c2 hsz2
   obtain ⟨k, hkn, rfl, hJ, kd⟩ := hrel
   by_cases hk5 : k < n
   ·have hkI : (k : Int) < (n : Int) := by omega
    have hk0 : (0 : Int) ≤ (k : Int) := by omega
    obtain ⟨g, o, rfl, hK⟩ := HK.out.resolve_left (fun h => by have h2 := en.out; rw [h] at h2; simp at h2; omega)
    obtain ⟨kx, hkx⟩ : ∃ kx, ks[k]? = some kx := ⟨_, List.getElem?_eq_getElem (by have := en.out; omega)⟩
    have hm : kx ∈ ks := List.mem_of_getElem? hkx
    obtain ⟨l1, b1, a1, n1, cap1, e0, e1, e2, hi⟩ := hK.get3 k _ hkx
    have hB := hW.out.trans kd.1
    replace e0 := (hB.cell (p := ⟨g, _, none⟩) (ltCell e0)).trans e0
    replace e1 := (hB.cell (p := ⟨g, _, none⟩) (ltCell e1)).trans e1
    replace e2 := (hB.cell (p := ⟨g, _, none⟩) (ltCell e2)).trans e2
    have NX := Has.new wr 78 #[.bool false, .string ⟨#[]⟩, .slice none 0 0]
    have x0 := NX.cell 0 _ rfl
    have x1 := NX.cell 1 _ rfl
    have x2 := NX.cell 2 _ rfl
    have f0 := NX.frozen 0
    have f1 := NX.frozen 1
    have f2 := NX.frozen 2
    replace NX := hid NX
    have q := (Below.refl wr.heap.size wr).alloc (Nat.le_refl _) (.cells #[.bool l1, .string b1, .slice a1 n1 cap1] 78)
    have hct := HCT.out kx hm
    have hpart := countL_part ks (k + 1)
    have htake := countL_take ks k kx hkx
    have HCALL := HI.out kx hm w0 _ hi l m (d + 1) (k0 + (1 + countL (ks.take k))) J Jx (wr.alloc (.cells #[.bool l1, .string b1, .slice a1 n1 cap1] 78)) (by omega) (hB.trans (q.mono hB.size)) HJ.out.1 HJ.out.2
     (fun i args W1 hi' hJi hE => by
      have hC := HC.out
      rw [show k0 + (1 + countL (ks.take k)) + i = k0 + (1 + countL (ks.take k) + i) by omega] at hJi ⊢
      refine HY.out (1 + countL (ks.take k) + i) args W1 (by omega) hJi ?_
      obtain ⟨d', x, v', h1, h2, h3⟩ := hE
      refine ⟨d', x, v', ?_, h2, h3⟩
      rw [HP.out, show 1 + countL (ks.take k) + i = (countL (ks.take k) + i) + 1 by omega, List.getElem?_cons_succ, preL_at (d + 1) ks k kx i hkx hi']
      exact h1)
     (HJ.out.1 _ _ _ hJ q)
    have hnx := hid (show k0 + (1 + countL (ks.take k)) + countI kx = k0 + (1 + countL (ks.take (k + 1))) by omega)
    have kdA := hid (kd.trans (Kd.grow q hB.size))
    have hCk := hid (show ∀ i, i < countI kx → 1 + countL (ks.take k) + i < countI t ∧ k0 + (1 + countL (ks.take k)) + i = k0 + (1 + countL (ks.take k) + i) from fun i hi' => by have := HC.out; omega)
    have hdI : (d : Int) + 1 ≤ 1099511627776 := by omega
    have hd0 : (0 : Int) ≤ (d : Int) := by omega
    rw [show ((d + 1 : Nat) : Int) = (d : Int) + 1 by omega] at HCALL
    replace HCALL := hid HCALL
    have lg := ltCell e0
    clear hB hi hK HK hJ kd q hct hpart htake hd HT HP HY HJ HI HCT HC hkx
    gi_wp2_with fail
    refine (callsIn_free free_wide HCALL.out).mono ?_
    rintro e W3 (⟨rfl, hJ3, hk3⟩ | ⟨rfl, i, hi3, hJx3⟩)
    ·rw [hnx.out] at hJ3
     have kd3 := hid (kdA.out.trans hk3)
     replace hJ3 := hid hJ3
     clear hk3 HCALL kdA x0 x1 x2 f0 f1 f2 e0 e1 e2 NX lg
     gi_wp2_with fail
     go_roundw
     case rel => exact ⟨k + 1, by omega, by simp, hJ3.out, kd3.out⟩
     case measure => simp [intOf]; omega
    ·rw [(hCk.out i hi3).2] at hJx3
     have hE := hid (HEND.out _ _ (hCk.out i hi3).1 hJx3)
     clear HCALL kdA x0 x1 x2 f0 f1 f2 e0 e1 e2 NX lg hJx3
     gi_wp2_with fail
     refine bodyPost_ret (results_tmp rfl _ _ _) rfl ?_
     exact hE.out
   ·obtain rfl : k = n := by omega
    have hE := hid (show TellP t k0 w0.heap.size J Jx W (.returned (.bool true)) wr from .inl ⟨rfl, by
     rw [HC.out]
     rw [List.take_of_length_le (by have := en.out; omega)] at hJ
     exact hJ, kd⟩)
    clear hJ kd
    gi_wp2_with fail
    refine bodyPost_ret (results_tmp rfl _ _ _) rfl ?_
    exact hE.out
 ·have hE := hid (HEND.out 0 _ HCP.out hJx2)
  clear hR hy LX QW hW0 kd1 hW1 hJx2
  gi_wp2_with fail
  refine bodyPost_ret (results_tmp rfl _ _ _) rfl ?_
  exact hE.out
theorem tell_any : ∀ t : It, TellAt t := It.induct tell_step
noncomputable def okI (t : It) : Bool := decide (countI t ≤ 5000) && rightB 16 t
def GrR (A X : World) : Prop := Below A.heap.size A X
theorem GrR.keeps (A X : World) (h : GrR A X) (b : Nat) (o : Obj) (ho : A.heap[b]? = some o) (_ : o.isCells = false) : X.heap[b]? = some o := (h.block b (Array.getElem?_eq_some_iff.1 ho).1).trans ho
theorem all_seq (n : Nat) (t : It) (l : Bool) (b : ByteArray) (a : Option Addr) (kn cap Bx : Nat) (w0 w : World) (ht : ItemAt w0 t (.agg #[.bool l, .string b, .slice a kn cap])) (hB : Below w0.heap.size w0 w)
  (hX : Has w Bx 78 #[.bool l, .string b, .slice a kn cap]) (hc : countI t ≤ 1099511627776) :
  SeqC Fence.wide n Tryz.prog 97 #[.pointer (some ⟨Bx, 0, none⟩)] (EI w0 0 t) (Kd w0.heap.size) GrR (countI t) w := by
 intro ll J Jx W hW hJA hJxA hY h0
 have hlt := hX.lt
 have LX := hX.below hW hlt
 have HC := tell_any t w0 _ ht ll 7 0 0 J Jx W (by omega) (hB.trans (hW.mono hB.size)) hJA hJxA (fun k args W1 hk hJ hE => by
  have := yieldAt_anyR (m := 7) (hY k args W1 hk (by simpa using hJ) hE)
  simpa using this) h0
 rw [show ((0 : Nat) : Int) = 0 from rfl] at HC
 have c0 := LX.cell 0 _ rfl
 have c1 := LX.cell 1 _ rfl
 have c2 := LX.cell 2 _ rfl
 replace HC := hid HC
 have hfin := hid (show ∀ e X, TellP t 0 w0.heap.size J Jx W e X → (J (countI t) X ∨ ∃ k, k < countI t ∧ Jx k X) ∧ ∃ v, e = .returned (.bool v) from fun e X h => by
  rcases h with ⟨rfl, h1, _⟩ | ⟨rfl, k, h1, h2⟩
  ·exact ⟨.inl (by simpa using h1), true, rfl⟩
  ·exact ⟨.inr ⟨k, h1, by simpa using h2⟩, false, rfl⟩)
 replace hX := hid hX
 clear hY hJA hJxA h0 ht hB hc LX
 refine callsIn_of_wp Tryz.func97 rfl trivial ?_ rfl
 simp only [Tryz.ntmps97, List.size_toArray, List.length_cons, List.length_nil, Nat.reduceAdd, Nat.reduceSub, Array.replicate_succ, Array.replicate_zero, List.push_toArray, List.append_toArray, List.nil_append, List.cons_append]
 gi_wp2_with fail
 refine ⟨fun h => absurd h (by simp [Fence.wide]), (callsIn_free free_wide HC.out).mono ?_⟩
 rintro e X hP
 obtain ⟨h1, v, rfl⟩ := hfin.out _ _ hP
 replace h1 := hid h1
 clear hP
 gi_wp2_with fail
 first | go_end0 | skip
 exact ⟨⟨_, rfl⟩, h1.out⟩
theorem either_any (t : It) (v : Value) (w : World) (ht : ItemAt w t v) : Calls Tryz.prog 94 #[v] w fun e w' => e = .returned (.bool (decide ((t.list = true → t.bytes = ⟨#[]⟩) ∧ (t.list = false → t.kids.length = 0)))) ∧ Below w.heap.size w w' := by
 obtain ⟨a, cap, rfl, hn, hs, hk⟩ := ht.open
 clear ht hk
 obtain ⟨R, hR⟩ : ∃ R, decide ((t.list = true → t.bytes = ⟨#[]⟩) ∧ (t.list = false → t.kids.length = 0)) = R := ⟨_, rfl⟩
 rw [hR]
 generalize t.list = l at *
 generalize t.bytes = b at *
 generalize t.kids.length = n at *
 have LX := Has.new w 78 #[.bool l, .string b, .slice a n cap]
 have Q := hid ((Below.refl w.heap.size w).alloc (Nat.le_refl _) (.cells #[.bool l, .string b, .slice a n cap] 78))
 have k0 := LX.cell 0 _ rfl
 have k1 := LX.cell 1 _ rfl
 have k2 := LX.cell 2 _ rfl
 replace LX := hid LX
 replace hs := hid hs
 cases l with
 | true =>
  by_cases hb : b = ⟨#[]⟩
  ·have hR' := hid (show R = true by rw [← hR]; simp [hb])
   clear hR
   subst hb
   go_enter Tryz.func94, Tryz.ntmps94
   go_wp2_with fail
   go_ret
   exact ⟨by rw [hR'.out]; rfl, Q.out⟩
  ·have hR' := hid (show R = false by rw [← hR]; simp [hb])
   clear hR
   have hbl := bytes_ne hb
   have hbe : (b.toList == []) = false := by
    have e : (ByteArray.mk #[]).toList = [] := by rw [ByteArray.toList_eq]
    rw [e] at hbl
    exact hbl
   replace hb := hid hb
   go_enter Tryz.func94, Tryz.ntmps94
   go_wp2_with fail
   go_ret
   exact ⟨by rw [hR'.out]; rfl, Q.out⟩
 | false =>
  by_cases hn0 : n = 0
  ·have hR' := hid (show R = true by rw [← hR]; simp [hn0])
   clear hR
   subst hn0
   go_enter Tryz.func94, Tryz.ntmps94
   go_wp2_with fail
   go_ret
   exact ⟨by rw [hR'.out]; rfl, Q.out⟩
  ·have hR' := hid (show R = false by rw [← hR]; simp [hn0])
   clear hR
   have hnI : ((n : Int) == 0) = false := by simpa using (show ¬ n = 0 by omega)
   replace hn0 := hid hn0
   go_enter Tryz.func94, Tryz.ntmps94
   go_wp2_with fail
   go_ret
   exact ⟨by rw [hR'.out]; rfl, Q.out⟩
theorem pre_right : ∀ (d : Nat) (t : It), (∀ p ∈ preI d t, p.1 < 16 ∧ (p.2.list = true → p.2.bytes = ⟨#[]⟩) ∧ (p.2.list = false → p.2.kids.length = 0)) ↔ (d < 16 ∧ RightI (16 - d) t) := by
 intro d t
 revert d
 refine It.induct (P := fun t => ∀ d, (∀ p ∈ preI d t, p.1 < 16 ∧ (p.2.list = true → p.2.bytes = ⟨#[]⟩) ∧ (p.2.list = false → p.2.kids.length = 0)) ↔ (d < 16 ∧ RightI (16 - d) t)) ?_ t
 intro t ih d
 have hL : ∀ (ks : List It), (∀ k ∈ ks, k ∈ t.kids) → ((∀ p ∈ preL (d + 1) ks, p.1 < 16 ∧ (p.2.list = true → p.2.bytes = ⟨#[]⟩) ∧ (p.2.list = false → p.2.kids.length = 0)) ↔ ∀ k ∈ ks, d + 1 < 16 ∧ RightI (16 - (d + 1)) k) := by
  intro ks
  induction ks with
  | nil => intro _; simp [preL]
  | cons k ks ih2 =>
   intro hm
   rw [preL]
   constructor
   ·intro h x hx
    rcases List.mem_cons.1 hx with rfl | hx
    ·exact (ih x (hm x (by simp)) (d + 1)).1 (fun p hp => h p (List.mem_append_left _ hp))
    ·exact (ih2 (fun y hy => hm y (by simp [hy]))).1 (fun p hp => h p (List.mem_append_right _ hp)) x hx
   ·intro h p hp
    rcases List.mem_append.1 hp with hp | hp
    ·exact (ih k (hm k (by simp)) (d + 1)).2 (h k (by simp)) p hp
    ·exact (ih2 (fun y hy => hm y (by simp [hy]))).2 (fun y hy => h y (by simp [hy])) p hp
 rw [preI_eq]
 constructor
 ·intro h
  obtain ⟨h1, h2, h3⟩ := h (d, t) (by simp)
  obtain ⟨e, he⟩ : ∃ e, 16 - d = e + 1 := ⟨15 - d, by simp only at h1; omega⟩
  refine ⟨h1, ?_⟩
  rw [he]
  refine ⟨h2, h3, fun k hk => ?_⟩
  have := (hL t.kids (fun _ h => h)).1 (fun p hp => h p (List.mem_cons_of_mem _ hp)) k hk
  rw [show e = 16 - (d + 1) by omega]
  exact this.2
 ·rintro ⟨h1, h2⟩ p hp
  obtain ⟨e, he⟩ : ∃ e, 16 - d = e + 1 := ⟨15 - d, by omega⟩
  rw [he] at h2
  obtain ⟨h3, h4, h5⟩ := h2
  rcases List.mem_cons.1 hp with rfl | hp
  ·exact ⟨h1, h3, h4⟩
  ·refine (hL t.kids (fun _ h => h)).2 (fun k hk => ?_) p hp
   have := h5 k hk
   rw [show e = 16 - (d + 1) by omega] at this
   refine ⟨?_, this⟩
   rcases Nat.lt_or_ge (d + 1) 16 with h | h
   ·exact h
   ·rw [show 16 - (d + 1) = 0 by omega] at this
    exact this.elim
def FitI (t : It) (k : Nat) : Prop := ∀ p, (preI 0 t)[k]? = some p → p.1 < 16 ∧ (p.2.list = true → p.2.bytes = ⟨#[]⟩) ∧ (p.2.list = false → p.2.kids.length = 0)
theorem okI_of {t : It} (hc : countI t ≤ 5000) (h : ∀ k, k < countI t → FitI t k) : okI t = true := by
 unfold okI
 rw [(rightB_iff 16 t).2 ?_]
 ·simpa using hc
 ·have := (pre_right 0 t).1 (fun p hp => by
   obtain ⟨j, hj⟩ := List.getElem?_of_mem hp
   have hl := (List.getElem?_eq_some_iff.1 hj).1
   rw [preI_length] at hl
   exact h j hl p hj)
  exact this.2
theorem okI_not {t : It} {k : Nat} (h : ¬ FitI t k) : okI t = false := by
 unfold okI
 rw [rightB_false ?_]
 ·simp
 ·intro hr
  refine h (fun p hp => (pre_right 0 t).2 ⟨by omega, hr⟩ p (List.mem_of_getElem? hp))
theorem okI_many {t : It} (h : 5000 < countI t) : okI t = false := by
 unfold okI
 rw [show decide (countI t ≤ 5000) = false by simpa using h]
 rfl
def RightSt (w : World) (t : It) (Bm Br : Nat) (k : Nat) (W : World) : Prop :=
 (Has W Bm 3 #[.int .i64 (k : Int)] ∧ Has W Br 4 #[.bool false]) ∧ (Below w.heap.size w W ∧ k ≤ 5000 ∧ ∀ j, j < k → FitI t j)
end Go.Proofs.YtkicmbdjihjgfaaGreatDoor
