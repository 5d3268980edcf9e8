/- Package state: alike. Conditions: the accounts' slots lie in memory. -/
import Derived.Test.YtkicmbdjihjgfaaGreatDoorG15
import Derived.Test.YtkicmbdjihjgfaaGreatDoorG10
import Derived.Test.YtkicmbdjihjgfaaGreatDoorG04
set_option maxRecDepth 100000
set_option maxHeartbeats 16000000
open List (setIfInBounds_toArray set_cons_succ set_cons_zero)
namespace Go.Proofs.YtkicmbdjihjgfaaGreatDoor
open Go Go.RowKit
attribute [local go_sem] Oper.semAt_some Grows wide_fn eq4
noncomputable def sameA (x y : Ac) : Bool := @decide (x = y) (Classical.propDecidable _)
theorem sameA_true {x y : Ac} (h : x = y) : sameA x y = true := by unfold sameA; exact @decide_eq_true _ (Classical.propDecidable _) h
theorem sameA_false {x y : Ac} (h : x ≠ y) : sameA x y = false := by unfold sameA; exact @decide_eq_false _ (Classical.propDecidable _) h
theorem same_code (a b : ByteArray) : (a.toList == b.toList) = true ↔ a = b := by
 rw [beq_iff_eq, ByteArray.toList_eq, ByteArray.toList_eq]
 constructor
 ·intro h
  exact ByteArray.ext (Array.ext' h)
 ·rintro rfl; rfl
theorem alike_any (W : World) (x y : Ac) (sx sy : Value) (hx : AcOk x) (hy : AcOk y) (hsx : SlotsAt W sx x.slots) (hsy : SlotsAt W sy y.slots) :
  Calls Tryz.prog 35 #[.agg (acC x sx), .agg (acC y sy)] W fun e w' => e = .returned (.bool (sameA x y)) ∧ Below W.heap.size W w' := by
 obtain ⟨a1, c1, rfl, _, _⟩ := hsx.shape
 obtain ⟨a2, c2, rfl, _, _⟩ := hsy.shape
 obtain ⟨cx, hcx⟩ : ∃ cx, acC x (.slice a1 x.slots.length c1) = cx := ⟨_, rfl⟩
 obtain ⟨cy, hcy⟩ : ∃ cy, acC y (.slice a2 y.slots.length c2) = cy := ⟨_, rfl⟩
 rw [hcx, hcy]
 have h10 := Has.new W 31 cx
 have q1 := (Below.refl W.heap.size W).alloc (Nat.le_refl _) (.cells cx 31)
 obtain ⟨W1, hW1⟩ : ∃ W1, W.alloc (.cells cx 31) = W1 := ⟨_, rfl⟩
 rw [hW1] at h10 q1
 have h21 := Has.new W1 31 cy
 have q2 := (Below.refl W1.heap.size W1).alloc (Nat.le_refl _) (.cells cy 31)
 obtain ⟨W2, hW2⟩ : ∃ W2, W1.alloc (.cells cy 31) = W2 := ⟨_, rfl⟩
 rw [hW2] at h21 q2
 have HX := (show Has W2 W.heap.size 31 (acC x (.slice a1 x.slots.length c1)) by rw [hcx]; exact h10.later q2)
 have HY := (show Has W2 W1.heap.size 31 (acC y (.slice a2 y.slots.length c2)) by rw [hcy]; exact h21)
 have Q2 := hid (q1.trans (q2.mono q1.size))
 have HEQ := hid (equal_slots W2 _ _ x.slots y.slots (hsx.later Q2.out) (hsy.later Q2.out))
 have hax := HX.accAdLoad
 have hay := HY.accAdLoad
 obtain ⟨x20, x21, x22, x23, x24, x25, x26⟩ := HX.acc
 obtain ⟨y20, y21, y22, y23, y24, y25, y26⟩ := HY.acc
 have he := fun X => eq20 x.at_ y.at_ hx.at_ hy.at_ X
 have hw := eqv_w x.bal y.bal hx.bal hy.bal
 have hcode := same_code x.code y.code
 have HT := hid (fun (h1 : x.at_ = y.at_) (h2 : x.bal = y.bal) (h3 : x.non = y.non) (h4 : x.code = y.code) (h5 : x.slots = y.slots) => sameA_true (show x = y by cases x; cases y; simp_all))
 have HN := hid (fun (h : x ≠ y) => sameA_false h)
 have N1 := hid (fun (h : ¬ x.at_ = y.at_) => sameA_false (show x ≠ y from fun e => h (by rw [e])))
 have N2 := hid (fun (h : ¬ x.bal = y.bal) => sameA_false (show x ≠ y from fun e => h (by rw [e])))
 have N3 := hid (fun (h : ¬ x.non = y.non) => sameA_false (show x ≠ y from fun e => h (by rw [e])))
 have N4 := hid (fun (h : ¬ x.code = y.code) => sameA_false (show x ≠ y from fun e => h (by rw [e])))
 have N5 := hid (fun (h : ¬ x.slots = y.slots) => sameA_false (show x ≠ y from fun e => h (by rw [e])))
 obtain ⟨res, hres⟩ : ∃ res, sameA x y = res := ⟨_, rfl⟩
 rw [hres] at HT HN N1 N2 N3 N4 N5
 rw [hres]
 clear HN HX HY hcx hcy h10 h21 q1 q2 hx hy hsx hsy hres
 generalize adC x.at_ = ax at *
 generalize adC y.at_ = ay at *
 generalize lim x.bal 0 = l0 at *
 generalize lim x.bal 1 = l1 at *
 generalize lim x.bal 2 = l2 at *
 generalize lim x.bal 3 = l3 at *
 generalize lim y.bal 0 = m0 at *
 generalize lim y.bal 1 = m1 at *
 generalize lim y.bal 2 = m2 at *
 generalize lim y.bal 3 = m3 at *
 replace hcode := hid hcode
 by_cases h1 : x.at_ = y.at_
 ·rw [decide_eq_true h1] at he
  have H1 := hid h1
  clear h1 N1
  by_cases h2 : x.bal = y.bal
  ·rw [decide_eq_true h2] at hw
   have H2 := hid h2
   clear h2 N2
   by_cases h3 : x.non = y.non
   ·have h3I : (x.non == y.non) = true := by simp [h3]
    have H3 := hid h3
    clear h3 N3
    generalize x.non = n1 at *
    generalize y.non = n2 at *
    by_cases h4 : x.code = y.code
    ·have h4I : (x.code.toList == y.code.toList) = true := hcode.out.2 h4
     have H4 := hid h4
     clear h4 N4
     generalize x.code = d1 at *
     generalize y.code = d2 at *
     generalize x.slots.length = k1 at *
     generalize y.slots.length = k2 at *
     go_enter Tryz.func35, Tryz.ntmps35
     go_wp2_with (first | (refine wpList_load_known rfl _ (.tmp 5) rfl _ rfl _ hax ?_) | (refine wpList_load_known rfl _ (.tmp 7) rfl _ rfl _ hay ?_))
     refine HEQ.out.mono ?_
     rintro _ w3 ⟨rfl, q3⟩
     have Q3 := hid (Q2.out.trans (q3.mono Q2.out.size))
     by_cases h5 : x.slots = y.slots
     ·have E := hid (HT.out H1.out H2.out H3.out H4.out h5)
      rw [decide_eq_true h5]
      clear h5 q3 HEQ hW1 hW2
      go_wp2_with fail
      go_ret
      exact ⟨by rw [E.out]; rfl, Q3.out⟩
     ·have E := hid (N5.out h5)
      rw [decide_eq_false h5]
      clear h5 q3 HEQ hW1 hW2
      go_wp2_with fail
      go_ret
      exact ⟨by rw [E.out]; rfl, Q3.out⟩
    ·have h4I : (x.code.toList == y.code.toList) = false := by
      cases hb : (x.code.toList == y.code.toList) with
      | false => rfl
      | true => exact absurd (hcode.out.1 hb) h4
     have E := hid (N4.out h4)
     clear h4 N4
     generalize x.code = d1 at *
     generalize y.code = d2 at *
     generalize x.slots.length = k1 at *
     generalize y.slots.length = k2 at *
     go_enter Tryz.func35, Tryz.ntmps35
     go_wp2_with (first | (refine wpList_load_known rfl _ (.tmp 5) rfl _ rfl _ hax ?_) | (refine wpList_load_known rfl _ (.tmp 7) rfl _ rfl _ hay ?_))
     go_ret
     exact ⟨by rw [E.out]; rfl, Q2.out⟩
   ·have h3I : (x.non == y.non) = false := by simpa using h3
    have E := hid (N3.out h3)
    clear h3 N3
    generalize x.non = n1 at *
    generalize y.non = n2 at *
    go_enter Tryz.func35, Tryz.ntmps35
    go_wp2_with (first | (refine wpList_load_known rfl _ (.tmp 5) rfl _ rfl _ hax ?_) | (refine wpList_load_known rfl _ (.tmp 7) rfl _ rfl _ hay ?_))
    go_ret
    exact ⟨by rw [E.out]; rfl, Q2.out⟩
  ·rw [decide_eq_false h2] at hw
   have E := hid (N2.out h2)
   clear h2 N2
   go_enter Tryz.func35, Tryz.ntmps35
   go_wp2_with (first | (refine wpList_load_known rfl _ (.tmp 5) rfl _ rfl _ hax ?_) | (refine wpList_load_known rfl _ (.tmp 7) rfl _ rfl _ hay ?_))
   go_ret
   exact ⟨by rw [E.out]; rfl, Q2.out⟩
 ·rw [decide_eq_false h1] at he
  have E := hid (N1.out h1)
  clear h1 N1
  go_enter Tryz.func35, Tryz.ntmps35
  go_wp2_with (first | (refine wpList_load_known rfl _ (.tmp 5) rfl _ rfl _ hax ?_) | (refine wpList_load_known rfl _ (.tmp 7) rfl _ rfl _ hay ?_))
  go_ret
  exact ⟨by rw [E.out]; rfl, Q2.out⟩
end Go.Proofs.YtkicmbdjihjgfaaGreatDoor
namespace Go.Proofs.YtkicmbdjihjgfaaGreatDoor
open Go Go.RowKit
attribute [local go_sem] Oper.semAt_some Grows wide_fn
noncomputable def sameS (l m : List Ac) : Bool := @decide (l = m) (Classical.propDecidable _)
theorem sameS_true {l m : List Ac} (h : l = m) : sameS l m = true := by unfold sameS; exact @decide_eq_true _ (Classical.propDecidable _) h
theorem sameS_false {l m : List Ac} (h : l ≠ m) : sameS l m = false := by unfold sameS; exact @decide_eq_false _ (Classical.propDecidable _) h
theorem list_same {α : Type} {a b : List α} {n : Nat} (ha : a.length = n) (hb : b.length = n) (h : ∀ (j : Nat) (x y : α), a[j]? = some x → b[j]? = some y → x = y) : a = b := by
 refine List.ext_getElem? fun j => ?_
 by_cases hj : j < n
 ·rw [List.getElem?_eq_getElem (by omega), List.getElem?_eq_getElem (by omega)]
  exact congrArg some (h j _ _ (List.getElem?_eq_getElem (by omega)) (List.getElem?_eq_getElem (by omega)))
 ·rw [List.getElem?_eq_none (by omega), List.getElem?_eq_none (by omega)]
theorem equal_func (W : World) (sa sb : Value) (la lb : List Ac) (ha : StAt W sa la) (hb : StAt W sb lb) :
  Calls Tryz.prog 34 #[sa, sb, .func (.func 35) #[] #[]] W fun e w' => e = .returned (.bool (sameS la lb)) ∧ Below W.heap.size W w' := by
 obtain ⟨a, ca, rfl, ha1, ha2⟩ := ha.shape
 obtain ⟨b, cb, rfl, hb1, hb2⟩ := hb.shape
 have HA := hid ha
 have HB := hid hb
 obtain ⟨m, hm⟩ : ∃ m, la.length = m := ⟨_, rfl⟩
 obtain ⟨n, hn⟩ : ∃ n, lb.length = n := ⟨_, rfl⟩
 rw [hm] at HA ha1 ⊢
 rw [hn] at HB hb1 ⊢
 have HM := hid hm
 have HN := hid hn
 have hlc := hid (Nat.le_trans ha1 ha2)
 clear ha hb hm hn ha1 ha2 hb1 hb2
 by_cases hmn : m = n
 ·subst hmn
  obtain ⟨Post, hPost⟩ : ∃ Post : Ending → World → Prop, (fun (e : Ending) (w' : World) => e = .returned (.bool (sameS la lb)) ∧ Below W.heap.size W w') = Post := ⟨_, rfl⟩
  have hres := hid (show ∀ X, Below W.heap.size W X → (∀ (j : Nat) (x y : Ac), la[j]? = some x → lb[j]? = some y → x = y) → Post (.returned (.bool true)) X from fun X hX h => by
   rw [← hPost]
   exact ⟨by rw [sameS_true (list_same HM.out HN.out h)], hX⟩)
  have hno := hid (show ∀ X, Below W.heap.size W X → la ≠ lb → Post (.returned (.bool false)) X from fun X hX h => by
   rw [← hPost]
   exact ⟨by rw [sameS_false h], hX⟩)
  rw [hPost]
  clear hPost
  go_enter Tryz.func34, Tryz.ntmps34
  go_wp2_with fail
  go_loopw [17] (fun i wr => ∃ k : Nat, k ≤ m ∧ i = .int .i64 (k : Int) ∧ (∀ (j : Nat) (x y : Ac), j < k → la[j]? = some x → lb[j]? = some y → x = y) ∧ Below W.heap.size W wr) (fun i _ => m - (intOf i).toNat)
  case atStart => exact ⟨0, by omega, rfl, fun j x y h => absurd h (by omega), Below.refl _ _⟩
  case round =>
   obtain ⟨k, hk, rfl, hlt, hq⟩ := hrel
   have HLT := hid hlt
   have HQ := hid hq
   clear hlt hq
   by_cases hkn : k < m
   ·have hknI : (k : Int) < (m : Int) := by omega
    have hk0 : (0 : Int) ≤ (k : Int) := by omega
    have hkb : (k : Int) ≤ 9223372036854775806 := by have := hlc.out; omega
    obtain ⟨x, hx⟩ : ∃ x, la[k]? = some x := ⟨_, List.getElem?_eq_getElem (by have := HM.out; omega)⟩
    obtain ⟨y, hy⟩ : ∃ y, lb[k]? = some y := ⟨_, List.getElem?_eq_getElem (by have := HN.out; omega)⟩
    obtain ⟨b1, sx, rfl, ax⟩ := (HA.out.later HQ.out).at hx
    obtain ⟨a1, c1, rfl, _, _⟩ := ax.slots.shape
    obtain ⟨b2, sy, rfl, ay⟩ := (HB.out.later HQ.out).at hy
    obtain ⟨a2, c2, rfl, _, _⟩ := ay.slots.shape
    have hl1 := ax.load
    obtain ⟨cx, hcx⟩ : ∃ cx, acC x (.slice a1 x.slots.length c1) = cx := ⟨_, rfl⟩
    obtain ⟨cy, hcy⟩ : ∃ cy, acC y (.slice a2 y.slots.length c2) = cy := ⟨_, rfl⟩
    have hi1 := accRow x (.slice a1 x.slots.length c1) rfl
    have hi2 := accRow y (.slice a2 y.slots.length c2) rfl
    rw [hcx] at hl1 hi1
    rw [hcy] at hi2
    obtain ⟨V3, hV3, h42, q3⟩ := newBox wr 31 #[.int .u8 0, .int .u8 0, .int .u8 0, .int .u8 0, .int .u8 0, .int .u8 0, .int .u8 0, .int .u8 0, .int .u8 0, .int .u8 0, .int .u8 0, .int .u8 0, .int .u8 0, .int .u8 0, .int .u8 0, .int .u8 0, .int .u8 0, .int .u8 0, .int .u8 0, .int .u8 0, .int .u64 0, .int .u64 0, .int .u64 0, .int .u64 0, .int .i64 0, .string { data := #[] }, .slice none 0 0]
    obtain ⟨V4, hV4⟩ : ∃ V4, V3.setRow wr.heap.size cx = V4 := ⟨_, rfl⟩
    have h4 : Has V4 wr.heap.size 31 cx := by rw [← hV4]; exact setRow_heap _ _ _ _ _ _ h42
    have q4 : Below wr.heap.size wr V4 := by rw [← hV4]; exact below_rowAc q3 (g := wr.heap.size) (Nat.le_refl _) cx
    have hl2 := (ay.later q4).load
    rw [hcy] at hl2
    obtain ⟨V5, hV5, h52, q5⟩ := newBox V4 31 #[.int .u8 0, .int .u8 0, .int .u8 0, .int .u8 0, .int .u8 0, .int .u8 0, .int .u8 0, .int .u8 0, .int .u8 0, .int .u8 0, .int .u8 0, .int .u8 0, .int .u8 0, .int .u8 0, .int .u8 0, .int .u8 0, .int .u8 0, .int .u8 0, .int .u8 0, .int .u8 0, .int .u64 0, .int .u64 0, .int .u64 0, .int .u64 0, .int .i64 0, .string { data := #[] }, .slice none 0 0]
    obtain ⟨V6, hV6⟩ : ∃ V6, V5.setRow V4.heap.size cy = V6 := ⟨_, rfl⟩
    have h6 : Has V6 V4.heap.size 31 cy := by rw [← hV6]; exact setRow_heap _ _ _ _ _ _ h52
    have q6 : Below V4.heap.size V4 V6 := by rw [← hV6]; exact below_rowAc q5 (g := V4.heap.size) (Nat.le_refl _) cy
    have hl5 := (show Has V6 wr.heap.size 31 (acC x (.slice a1 x.slots.length c1)) by rw [hcx]; exact h4.later q6).accLoad
    have hl6 := (show Has V6 V4.heap.size 31 (acC y (.slice a2 y.slots.length c2)) by rw [hcy]; exact h6).accLoad
    rw [hcx] at hl5
    rw [hcy] at hl6
    have qr6 := q4.trans (q6.mono q4.size)
    have KA := hid (alike_any V6 x y _ _ (HA.out.ok hx) (HB.out.ok hy) (ax.slots.later qr6) (ay.slots.later qr6))
    rw [hcx, hcy] at KA
    have Q6 := hid (HQ.out.trans (qr6.mono HQ.out.size))
    have HX := hid (And.intro hx (And.intro hy hkn))
    clear hx hy hkn ax ay hcx hcy q3 q4 q5 q6 qr6 h4 h6 hk
    go_wp2_with (first | (refine wpList_load_known rfl _ (.tmp 20) rfl _ rfl _ hl1 ?_) | (refine wpList_load_known rfl _ (.tmp 24) rfl _ rfl _ hl2 ?_) | (refine wpList_load_known rfl _ (.tmp 8) rfl _ rfl _ hl5 ?_) | (refine wpList_load_known rfl _ (.tmp 9) rfl _ rfl _ hl6 ?_) | (refine wpList_store_row rfl _ (.tmp 8) (.tmp 21) rfl _ _ rfl rfl _ _ h42 hi1.1 hi1.2.1 hi1.2.2 ?_; rw [hV4]) | (refine wpList_store_row rfl _ (.tmp 9) (.tmp 25) rfl _ _ rfl rfl _ _ h52 hi2.1 hi2.2.1 hi2.2.2 ?_; rw [hV6]))
    refine KA.out.mono ?_
    rintro _ w7 ⟨rfl, q7⟩
    have Q7 := hid (Q6.out.trans (q7.mono Q6.out.size))
    clear q7 KA hl1 hl2 hl5 hl6 h42 h52 hi1 hi2 hV3 hV4 hV5 hV6
    by_cases hxy : x = y
    ·have HXY := hid hxy
     rw [sameA_true hxy]
     clear hxy
     go_wp2_with fail
     go_roundw
     case rel => exact ⟨k + 1, by have := HX.out.2.2; omega, by simp, fun j x' y' hj hx hy => by
      by_cases hjk : j < k
      ·exact HLT.out j x' y' hjk hx hy
      ·obtain rfl : j = k := by omega
       rw [HX.out.1] at hx
       rw [HX.out.2.1] at hy
       injection hx with hx
       injection hy with hy
       rw [← hx, ← hy]
       exact HXY.out, Q7.out⟩
     case measure => have := HX.out.2.2; simp [intOf]; omega
    ·rw [sameA_false hxy]
     have HXY := hid (show la ≠ lb from fun h => hxy (by
      have h1 := HX.out.1
      rw [h, HX.out.2.1] at h1
      injection h1 with h1
      exact h1.symm))
     clear hxy
     go_wp2_with fail
     exact hno.out _ Q7.out HXY.out
   ·have hknI : ¬ (k : Int) < (m : Int) := by omega
    have HR := hid (show ∀ (j : Nat) (x y : Ac), la[j]? = some x → lb[j]? = some y → x = y from fun j x y hx hy => HLT.out j x y (by
     have := (List.getElem?_eq_some_iff.1 hx).1
     have := HM.out
     omega) hx hy)
    go_wp2_with fail
    exact hres.out _ HQ.out HR.out
 ·have hI : ¬ (m : Int) = (n : Int) := by omega
  have hne := hid (show la ≠ lb from fun h => hmn (by rw [← HM.out, ← HN.out, h]))
  clear hmn
  go_enter Tryz.func34, Tryz.ntmps34
  go_wp2_with fail
  go_ret
  exact ⟨by rw [sameS_false hne.out]; rfl, Below.refl _ _⟩
theorem same_st (W : World) (sa sb : Value) (la lb : List Ac) (ha : StAt W sa la) (hb : StAt W sb lb) :
  Calls Tryz.prog 12 #[sa, sb] W fun e w' => e = .returned (.bool (sameS la lb)) ∧ Below W.heap.size W w' := by
 have H := hid (equal_func W sa sb la lb ha hb)
 clear ha hb
 generalize sameS la lb = r at *
 go_enter Tryz.func12, Tryz.ntmps12
 go_wp2_with fail
 refine H.out.mono ?_
 rintro _ w1 ⟨rfl, q⟩
 have Q := hid q
 clear q H
 go_wp2_with fail
 go_ret
 exact ⟨rfl, Q.out⟩
end Go.Proofs.YtkicmbdjihjgfaaGreatDoor
namespace Go.Proofs.YtkicmbdjihjgfaaGreatDoor
open Go Go.RowKit
attribute [local go_sem] Oper.semAt_some Grows wide_fn eq4
theorem refPatch_any (W : World) (sv : Value) (l : List Sl) (hs : SlotsAt W sv l) :
  Calls Tryz.prog 89 #[sv] W fun e w' => e = .returned (.bool (patchB l)) ∧ Below W.heap.size W w' := by
 have hmx : Tryz.prog.follows .mixedOrders = true := by kernel_rfl
 obtain ⟨a, cap, rfl, hnc, hcm⟩ := hs.shape
 have HS := hid hs
 obtain ⟨n, hn⟩ : ∃ n, l.length = n := ⟨_, rfl⟩
 rw [hn] at HS hnc ⊢
 have HN := hid hn
 have hlc := hid (Nat.le_trans hnc hcm)
 clear hs hnc hcm hn
 have hfin := hid (show ∀ X v, Below W.heap.size W X → patchB l = v → (Ending.returned (.bool v) = .returned (.bool (patchB l)) ∧ Below W.heap.size W X) from fun X v hX h => ⟨by rw [h], hX⟩)
 obtain ⟨Post, hPost⟩ : ∃ Post : Ending → World → Prop, (fun (e : Ending) (w' : World) => e = .returned (.bool (patchB l)) ∧ Below W.heap.size W w') = Post := ⟨_, rfl⟩
 replace hfin := hid (show ∀ X v, Below W.heap.size W X → patchB l = v → Post (.returned (.bool v)) X by rw [← hPost]; exact hfin.out)
 rw [hPost]
 clear hPost
 go_enter Tryz.func89, Tryz.ntmps89
 go_wp2_with fail
 go_loopw [3] (fun i wr => ∃ k : Nat, 1 ≤ k ∧ (k ≤ n ∨ k = 1) ∧ i = .int .i64 (k : Int) ∧ (∀ (j : Nat) (x y : Sl), j + 1 < k → l[j]? = some x → l[j + 1]? = some y → x.1 < y.1) ∧ Below W.heap.size W wr) (fun i _ => n - (intOf i).toNat)
 case atStart => exact ⟨1, by omega, .inr rfl, rfl, fun j x y h => absurd h (by omega), Below.refl _ _⟩
 case round =>
  obtain ⟨k, hk1, hk, rfl, hlt, hq⟩ := hrel
  have HLT := hid hlt
  have HQ := hid hq
  clear hlt hq
  by_cases hkn : k < n
  ·have hknI : (k : Int) < (n : Int) := by omega
   have hk0 : (0 : Int) ≤ (k : Int) := by omega
   have hkb : (k : Int) ≤ 9223372036854775806 := by have := hlc.out; omega
   obtain ⟨m, hm⟩ : ∃ m, k - 1 = m := ⟨_, rfl⟩
   have hm1 : (k : Int) - 1 = (m : Int) := by omega
   have hm2 : (m : Int) < (n : Int) := by omega
   obtain ⟨x, hx⟩ : ∃ x, l[m]? = some x := ⟨_, List.getElem?_eq_getElem (by have := HN.out; omega)⟩
   obtain ⟨y, hy⟩ : ∃ y, l[k]? = some y := ⟨_, List.getElem?_eq_getElem (by have := HN.out; omega)⟩
   obtain ⟨b, rfl, _⟩ := (HS.out.later HQ.out).at hx
   have hC := fun z : Ext wr => (HS.out.later (HQ.out.trans (z.below.mono HQ.out.size))).at' hx
   have hD := fun z : Ext wr => (HS.out.later (HQ.out.trans (z.below.mono HQ.out.size))).at' hy
   have K3 := refCmp_ret x.1 y.1 (HS.out.wide hx).1 (HS.out.wide hy).1
   unfold wv at K3
   have hcge := hid (wcmp_ge x.1 y.1)
   generalize wcmp x.1 y.1 = c at *
   replace K3 := hid K3
   have c0 := fun z : Ext wr => (hC z).1
   have c1 := fun z : Ext wr => (hC z).2.1
   have c2 := fun z : Ext wr => (hC z).2.2.1
   have c3 := fun z : Ext wr => (hC z).2.2.2.1
   have d0 := fun z : Ext wr => (hD z).1
   have d1 := fun z : Ext wr => (hD z).2.1
   have d2 := fun z : Ext wr => (hD z).2.2.1
   have d3 := fun z : Ext wr => (hD z).2.2.2.1
   have HX := hid (And.intro hx hy)
   have HM := hid hm
   have HK := hid (And.intro hk1 hkn)
   clear hx hy hC hD hm hk1 hk hkn
   by_cases hc0 : 0 ≤ c
   ·go_wp2_with fail
    refine wp_region_quietL (C := Grows wr) hmx (by kernel_rfl) (grows_refl wr) ?_
    repeat (go_big_quiet_step (first | (with_reducible exact Ret.at K3.out _)))
    refine wpQuiet_nil ?_
    rintro _ ⟨z, rfl⟩
    have hno := hid (show patchB l = false by
     rcases hb : patchB l with _ | _
     ·rfl
     ·have hr := ((patchB_iff l).1 hb).2
      have h1 := rise_at.1 hr m x y HX.out.1 (by rw [show m + 1 = k by have := HM.out; have := HK.out; omega]; exact HX.out.2)
      have := hcge.out.1 hc0
      omega)
    have HE := hid (HQ.out.trans (z.below.mono HQ.out.size))
    clear c0 c1 c2 c3 d0 d1 d2 d3 K3
    go_wp2_with fail
    exact hfin.out _ _ HE.out hno.out
   ·go_wp2_with fail
    refine wp_region_quietL (C := Grows wr) hmx (by kernel_rfl) (grows_refl wr) ?_
    repeat (go_big_quiet_step (first | (with_reducible exact Ret.at K3.out _)))
    refine wpQuiet_nil ?_
    rintro _ ⟨z, rfl⟩
    have HE := hid (HQ.out.trans (z.below.mono HQ.out.size))
    have hlt := hid (show x.1 < y.1 from Nat.lt_of_not_le (fun h => by have := hcge.out.2 h; omega))
    clear c0 c1 c2 c3 d0 d1 d2 d3 K3
    go_wp2_with fail
    go_roundw
    case rel =>
     refine ⟨k + 1, by omega, .inl (by have := HK.out; omega), by simp, fun j x' y' hj h1 h2 => ?_, HE.out⟩
     by_cases hjk : j + 1 < k
     ·exact HLT.out j x' y' hjk h1 h2
     ·have hjk' : j = m := by have := HM.out; have := HK.out; omega
      subst hjk'
      rw [HX.out.1] at h1
      rw [show j + 1 = k by have := HM.out; have := HK.out; omega, HX.out.2] at h2
      injection h1 with h1
      injection h2 with h2
      subst h1 h2
      exact hlt.out
    case measure => have := HK.out; simp [intOf]; omega
  ·have hknI : ¬ (k : Int) < (n : Int) := by omega
   have hr := hid (show Rise l from rise_at.2 (fun j x y hx hy => HLT.out j x y (by
    have := (List.getElem?_eq_some_iff.1 hy).1
    have := HN.out
    omega) hx hy))
   clear hk hkn hk1
   by_cases hn0 : n ≤ 1000
   ·have hnI : (n : Int) ≤ 1000 := by omega
    have hyes := hid (show patchB l = true from (patchB_iff l).2 ⟨by rw [HN.out]; exact hn0, hr.out⟩)
    clear hn0
    go_wp2_with fail
    exact hfin.out _ _ HQ.out hyes.out
   ·have hnI : ¬ (n : Int) ≤ 1000 := by omega
    have hno := hid (show patchB l = false from by
     rcases hb : patchB l with _ | _
     ·rfl
     ·exact absurd ((patchB_iff l).1 hb).1 (by rw [HN.out]; exact hn0))
    clear hn0
    go_wp2_with fail
    exact hfin.out _ _ HQ.out hno.out
theorem refRight_any (W : World) (sv : Value) (l : List Sl) (hs : SlotsAt W sv l) :
  Calls Tryz.prog 57 #[sv] W fun e w' => e = .returned (.bool (rightB' l)) ∧ Below W.heap.size W w' := by
 have hmx : Tryz.prog.follows .mixedOrders = true := by kernel_rfl
 obtain ⟨a, cap, rfl, hnc, hcm⟩ := hs.shape
 have HS := hid hs
 obtain ⟨n, hn⟩ : ∃ n, l.length = n := ⟨_, rfl⟩
 rw [hn] at HS hnc ⊢
 have HN := hid hn
 have hlc := hid (Nat.le_trans hnc hcm)
 clear hs hnc hcm hn
 have hfin := hid (show ∀ X v, Below W.heap.size W X → rightB' l = v → (Ending.returned (.bool v) = .returned (.bool (rightB' l)) ∧ Below W.heap.size W X) from fun X v hX h => ⟨by rw [h], hX⟩)
 obtain ⟨Post, hPost⟩ : ∃ Post : Ending → World → Prop, (fun (e : Ending) (w' : World) => e = .returned (.bool (rightB' l)) ∧ Below W.heap.size W w') = Post := ⟨_, rfl⟩
 replace hfin := hid (show ∀ X v, Below W.heap.size W X → rightB' l = v → Post (.returned (.bool v)) X by rw [← hPost]; exact hfin.out)
 rw [hPost]
 clear hPost
 go_enter Tryz.func57, Tryz.ntmps57
 go_wp2_with fail
 go_loopw [3] (fun i wr => ∃ k : Nat, k ≤ n ∧ i = .int .i64 (k : Int) ∧ (∀ (j : Nat) (x : Sl), j < k → l[j]? = some x → x.2 ≠ 0) ∧ Below W.heap.size W wr) (fun i _ => n - (intOf i).toNat)
 case atStart => exact ⟨0, by omega, rfl, fun j x h => absurd h (by omega), Below.refl _ _⟩
 case round =>
  obtain ⟨k, hk, rfl, hlt, hq⟩ := hrel
  have HLT := hid hlt
  have HQ := hid hq
  clear hlt hq
  by_cases hkn : k < n
  ·have hknI : (k : Int) < (n : Int) := by omega
   have hk0 : (0 : Int) ≤ (k : Int) := by omega
   have hkb : (k : Int) ≤ 9223372036854775806 := by have := hlc.out; omega
   obtain ⟨x, hx⟩ : ∃ x, l[k]? = some x := ⟨_, List.getElem?_eq_getElem (by have := HN.out; omega)⟩
   obtain ⟨b, rfl, _⟩ := (HS.out.later HQ.out).at hx
   have hC := (HS.out.later HQ.out).at' hx
   have c4 := (hC).2.2.2.2.1
   have c5 := (hC).2.2.2.2.2.1
   have c6 := (hC).2.2.2.2.2.2.1
   have c7 := (hC).2.2.2.2.2.2.2
   have hz := zero_w x.2 (HS.out.wide hx).2
   have HX := hid hx
   have HK := hid hkn
   clear hx hC hk hkn
   by_cases hx0 : x.2 = 0
   ·rw [decide_eq_true hx0] at hz
    have hno := hid (show rightB' l = false by
     rcases hb : rightB' l with _ | _
     ·rfl
     ·exact absurd hx0 (((rightB_iff' l).1 hb).2.2 x (List.mem_of_getElem? HX.out)))
    clear hx0
    go_wp2_with fail
    exact hfin.out _ _ HQ.out hno.out
   ·rw [decide_eq_false hx0] at hz
    have hx0' := hid hx0
    clear hx0
    go_wp2_with fail
    go_roundw
    case rel =>
     refine ⟨k + 1, by have := HK.out; omega, by simp, fun j x' hj h1 => ?_, HQ.out⟩
     rcases Nat.lt_or_ge j k with h | h
     ·exact HLT.out j x' h h1
     ·obtain rfl : j = k := by omega
      rw [HX.out] at h1
      injection h1 with h1
      subst h1
      exact hx0'.out
    case measure => have := HK.out; simp [intOf]; omega
  ·have hknI : ¬ (k : Int) < (n : Int) := by omega
   have HC := hid (refPatch_any wr (.slice a n cap) l (HS.out.later HQ.out))
   have HE := hid (show patchB l = rightB' l from by
    rw [Bool.eq_iff_iff, patchB_iff, rightB_iff']
    refine ⟨fun h => ⟨h.1, h.2, fun x hx => ?_⟩, fun h => ⟨h.1, h.2.1⟩⟩
    obtain ⟨j, hj⟩ := List.getElem?_of_mem hx
    exact HLT.out j x (by have := (List.getElem?_eq_some_iff.1 hj).1; have := HN.out; omega) hj)
   clear hk hkn
   go_wp2_with fail
   refine HC.out.mono ?_
   rintro e w2 ⟨rfl, hb⟩
   have QE := hid (HQ.out.trans (hb.mono HQ.out.size))
   clear hb HC
   go_wp2_with fail
   exact hfin.out _ _ QE.out HE.out.symm
theorem refGet_any (W : World) (sv : Value) (l : List Sl) (hs : SlotsAt W sv l) (g : Nat) (hg : W256 g) :
  Calls Tryz.prog 43 #[sv, wv g] W fun e w' => e = .returned (wv (look l g)) ∧ Below W.heap.size W w' := by
 have hmx : Tryz.prog.follows .mixedOrders = true := by kernel_rfl
 obtain ⟨a, cap, rfl, hnc, hcm⟩ := hs.shape
 have HS := hid hs
 obtain ⟨n, hn⟩ : ∃ n, l.length = n := ⟨_, rfl⟩
 rw [hn] at HS hnc ⊢
 have HN := hid hn
 have hlc := hid (Nat.le_trans hnc hcm)
 clear hs hnc hcm hn
 have HG := hid hg
 clear hg
 have hfin := hid (show ∀ X v, Below W.heap.size W X → look l g = v → (Ending.returned (wv v) = .returned (wv (look l g)) ∧ Below W.heap.size W X) from fun X v hX h => ⟨by rw [h], hX⟩)
 obtain ⟨Post, hPost⟩ : ∃ Post : Ending → World → Prop, (fun (e : Ending) (w' : World) => e = .returned (wv (look l g)) ∧ Below W.heap.size W w') = Post := ⟨_, rfl⟩
 replace hfin := hid (show ∀ X v, Below W.heap.size W X → look l g = v → Post (.returned (wv v)) X by rw [← hPost]; exact hfin.out)
 rw [hPost]
 clear hPost
 have hEQ := hid (fun (x : Nat) (hx : W256 x) => eqv_w x g hx HG.out)
 unfold wv
 generalize hg0 : lim g 0 = g0 at hEQ ⊢
 generalize hg1 : lim g 1 = g1 at hEQ ⊢
 generalize hg2 : lim g 2 = g2 at hEQ ⊢
 generalize hg3 : lim g 3 = g3 at hEQ ⊢
 clear hg0 hg1 hg2 hg3
 have K0 := (Has.new W 28 #[.int .u64 g0, .int .u64 g1, .int .u64 g2, .int .u64 g3]).alloc (.cells #[.int .u64 0, .int .u64 0, .int .u64 0, .int .u64 0] 28)
 have Z0 := Has.new (W.alloc (.cells #[.int .u64 g0, .int .u64 g1, .int .u64 g2, .int .u64 g3] 28)) 28 #[.int .u64 0, .int .u64 0, .int .u64 0, .int .u64 0]
 simp only [World.size_alloc] at Z0
 have q0 := ((Below.refl W.heap.size W).alloc (Nat.le_refl _) (.cells #[.int .u64 g0, .int .u64 g1, .int .u64 g2, .int .u64 g3] 28)).alloc (by simp) (.cells #[.int .u64 0, .int .u64 0, .int .u64 0, .int .u64 0] 28)
 have hsz0 : ((W.alloc (.cells #[.int .u64 g0, .int .u64 g1, .int .u64 g2, .int .u64 g3] 28)).alloc (.cells #[.int .u64 0, .int .u64 0, .int .u64 0, .int .u64 0] 28)).heap.size = W.heap.size + 1 + 1 := by simp
 obtain ⟨V, hV⟩ : ∃ V, (W.alloc (.cells #[.int .u64 g0, .int .u64 g1, .int .u64 g2, .int .u64 g3] 28)).alloc (.cells #[.int .u64 0, .int .u64 0, .int .u64 0, .int .u64 0] 28) = V := ⟨_, rfl⟩
 rw [hV] at K0 Z0 q0 hsz0
 have KK := hid K0
 have ZZ := hid Z0
 have HSV := hid (HS.out.later q0)
 have Q := hid q0
 clear K0 Z0 q0 HS hsz0
 go_enter Tryz.func43, Tryz.ntmps43
 go_wp2_with fail
 clear hV
 go_loopw [5] (fun i wr => ∃ k : Nat, k ≤ n ∧ i = .int .i64 (k : Int) ∧ (∀ (j : Nat) (x : Sl), j < k → l[j]? = some x → x.1 ≠ g) ∧ Below V.heap.size V wr) (fun i _ => n - (intOf i).toNat)
 case atStart => exact ⟨0, by omega, rfl, fun j x h => absurd h (by omega), Below.refl _ _⟩
 case round =>
  obtain ⟨k, hk, rfl, hlt, hq⟩ := hrel
  have HLT := hid hlt
  have HQ := hid hq
  have KK1 := hid (KK.out.later hq)
  have ZZ1 := hid (ZZ.out.later hq)
  clear hlt hq
  by_cases hkn : k < n
  ·have hknI : (k : Int) < (n : Int) := by omega
   have hk0 : (0 : Int) ≤ (k : Int) := by omega
   have hkb : (k : Int) ≤ 9223372036854775806 := by have := hlc.out; omega
   obtain ⟨x, hx⟩ : ∃ x, l[k]? = some x := ⟨_, List.getElem?_eq_getElem (by have := HN.out; omega)⟩
   obtain ⟨b, rfl, _⟩ := (HSV.out.later HQ.out).at hx
   have hC := fun z : Ext wr => (HSV.out.later (HQ.out.trans (z.below.mono HQ.out.size))).at' hx
   have c0 := fun z : Ext wr => (hC z).1
   have c1 := fun z : Ext wr => (hC z).2.1
   have c2 := fun z : Ext wr => (hC z).2.2.1
   have c3 := fun z : Ext wr => (hC z).2.2.2.1
   have k0 := fun z : Ext wr => (KK1.out.later z.below).cell 0 _ rfl
   have k1 := fun z : Ext wr => (KK1.out.later z.below).cell 1 _ rfl
   have k2 := fun z : Ext wr => (KK1.out.later z.below).cell 2 _ rfl
   have k3 := fun z : Ext wr => (KK1.out.later z.below).cell 3 _ rfl
   have hz := hEQ.out x.1 (HSV.out.wide hx).1
   have HX := hid hx
   have HK := hid hkn
   clear hx hC hk hkn
   by_cases hxg : x.1 = g
   ·rw [decide_eq_true hxg] at hz
    have HXG := hid hxg
    clear hxg
    go_wp2_with fail
    refine wp_region_quietL (C := Grows wr) hmx (by kernel_rfl) (grows_refl wr) ?_
    repeat (go_big_quiet_step (fail))
    refine wpQuiet_nil ?_
    rintro _ ⟨z, rfl⟩
    have hq2 := HQ.out.trans (z.below.mono HQ.out.size)
    have hC := (HSV.out.later hq2).at' HX.out
    have e4 := (hC).2.2.2.2.1
    have e5 := (hC).2.2.2.2.2.1
    have e6 := (hC).2.2.2.2.2.2.1
    have e7 := (hC).2.2.2.2.2.2.2
    have ZZ2 := ZZ1.out.later z.below
    have z0 := ZZ2.cell 0 _ rfl
    have z1 := ZZ2.cell 1 _ rfl
    have z2 := ZZ2.cell 2 _ rfl
    have z3 := ZZ2.cell 3 _ rfl
    have f0 := ZZ2.frozen 0
    have f1 := ZZ2.frozen 1
    have f2 := ZZ2.frozen 2
    have f3 := ZZ2.frozen 3
    have ZZ3 := (((ZZ2.set 0 (.int .u64 (lim x.2 0))).set 1 (.int .u64 (lim x.2 1))).set 2 (.int .u64 (lim x.2 2))).set 3 (.int .u64 (lim x.2 3))
    have QZ := hid (((((Q.out.trans (hq2.mono Q.out.size)).setCell (p := ⟨W.heap.size + 1, 0, none⟩) (by simp) (.int .u64 (lim x.2 0))).setCell (p := ⟨W.heap.size + 1, 1, none⟩) (by simp) (.int .u64 (lim x.2 1))).setCell (p := ⟨W.heap.size + 1, 2, none⟩) (by simp) (.int .u64 (lim x.2 2))).setCell (p := ⟨W.heap.size + 1, 3, none⟩) (by simp) (.int .u64 (lim x.2 3)))
    have HZ := hid ZZ3
    have hlk := hid (show look l g = x.2 by
     unfold look
     rw [← HXG.out, lk_first HX.out (fun j y hj hy => by rw [HXG.out]; exact HLT.out j y hj hy)]
     rfl)
    replace ZZ2 := hid ZZ2
    clear c0 c1 c2 c3 k0 k1 k2 k3 hC ZZ3 hq2
    go_wp2_with fail
    exact bodyPost_ret (results_h (Tryz.results43) rfl HZ.out) rfl (hfin.out _ _ QZ.out hlk.out)
   ·rw [decide_eq_false hxg] at hz
    have HXG := hid hxg
    clear hxg
    go_wp2_with fail
    refine wp_region_quietL (C := Grows wr) hmx (by kernel_rfl) (grows_refl wr) ?_
    repeat (go_big_quiet_step (fail))
    refine wpQuiet_nil ?_
    rintro _ ⟨z, rfl⟩
    have HE := hid (HQ.out.trans (z.below.mono HQ.out.size))
    clear c0 c1 c2 c3 k0 k1 k2 k3
    go_wp2_with fail
    go_roundw
    case rel =>
     refine ⟨k + 1, by have := HK.out; omega, by simp, fun j x' hj h1 => ?_, HE.out⟩
     rcases Nat.lt_or_ge j k with h | h
     ·exact HLT.out j x' h h1
     ·obtain rfl : j = k := by omega
      rw [HX.out] at h1
      injection h1 with h1
      subst h1
      exact HXG.out
    case measure => have := HK.out; simp [intOf]; omega
  ·have hknI : ¬ (k : Int) < (n : Int) := by omega
   have z0 := ZZ1.out.cell 0 _ rfl
   have z1 := ZZ1.out.cell 1 _ rfl
   have z2 := ZZ1.out.cell 2 _ rfl
   have z3 := ZZ1.out.cell 3 _ rfl
   have f0 := ZZ1.out.frozen 0
   have f1 := ZZ1.out.frozen 1
   have f2 := ZZ1.out.frozen 2
   have f3 := ZZ1.out.frozen 3
   have ZZ3 := (((ZZ1.out.set 0 (.int .u64 0)).set 1 (.int .u64 0)).set 2 (.int .u64 0)).set 3 (.int .u64 0)
   have QZ := hid (((((Q.out.trans (HQ.out.mono Q.out.size)).setCell (p := ⟨W.heap.size + 1, 0, none⟩) (by simp) (.int .u64 0)).setCell (p := ⟨W.heap.size + 1, 1, none⟩) (by simp) (.int .u64 0)).setCell (p := ⟨W.heap.size + 1, 2, none⟩) (by simp) (.int .u64 0)).setCell (p := ⟨W.heap.size + 1, 3, none⟩) (by simp) (.int .u64 0))
   have HZ := hid ZZ3
   have hlk := hid (show look l g = 0 by
    unfold look
    rw [lk_no (fun j y hy => HLT.out j y (by have := (List.getElem?_eq_some_iff.1 hy).1; have := HN.out; omega) hy)]
    rfl)
   clear hk hkn ZZ3
   go_wp2_with fail
   exact bodyPost_ret (results_h (Tryz.results43) rfl HZ.out) rfl (hfin.out _ 0 QZ.out hlk.out)
theorem refEmpty_any8 (W : World) (x : Ac) (sv : Value) (hx : AcOk x) (hs : SlotsAt W sv x.slots) :
  Calls Tryz.prog 15 #[.agg (acC x sv)] W fun e w' => e = .returned (.bool (emptyB x)) ∧ Below W.heap.size W w' := by
 have B := Has.new W 31 (acC x sv)
 have Q := hid ((Below.refl W.heap.size W).alloc (Nat.le_refl _) (.cells (acC x sv) 31))
 obtain ⟨a, cap, rfl, hn, hc⟩ := hs.shape
 obtain ⟨c0, c1, c2, c3, c4, c5, c6⟩ := B.acc
 have hz := zero_w x.bal hx.bal
 have HRES := hid (show emptyB x = (decide (x.bal = 0) && (decide (x.non = 0) && (decide (x.code.size = 0) && decide (x.slots.length = 0)))) from rfl)
 have hno := hx.non
 unfold I64 at hno
 have hcs := no_bytes x.code
 generalize emptyB x = res at *
 generalize acC x (.slice a x.slots.length cap) = cs at *
 generalize x.slots.length = n at *
 generalize lim x.bal 0 = l0 at *
 generalize lim x.bal 1 = l1 at *
 generalize lim x.bal 2 = l2 at *
 generalize lim x.bal 3 = l3 at *
 generalize x.non = no at *
 generalize x.code = code at *
 replace B := hid B
 replace hcs := hid hcs
 clear hs hx
 have hn0 : (0 : Int) ≤ (n : Int) := by omega
 by_cases h1 : x.bal = 0
 ·rw [decide_eq_true h1] at hz HRES
  clear h1
  by_cases h2 : no = 0
  ·have h2I : (no == 0) = true := by simp [h2]
   rw [decide_eq_true h2] at HRES
   clear h2
   by_cases h3 : code.size = 0
   ·have h3I : code.toList.isEmpty = true := (hcs.out).trans (decide_eq_true h3)
    rw [decide_eq_true h3] at HRES
    clear h3
    by_cases h4 : n = 0
    ·subst h4
     rw [decide_eq_true rfl] at HRES
     go_enter Tryz.func15, Tryz.ntmps15
     go_wp2_with fail
     go_ret
     exact ⟨by rw [HRES.out]; rfl, Q.out⟩
    ·have h4I : ((n : Int) == 0) = false := by rw [beq_eq_false_iff_ne]; omega
     rw [decide_eq_false h4] at HRES
     clear h4
     go_enter Tryz.func15, Tryz.ntmps15
     go_wp2_with fail
     go_ret
     exact ⟨by rw [HRES.out]; rfl, Q.out⟩
   ·have h3I : code.toList.isEmpty = false := (hcs.out).trans (decide_eq_false h3)
    rw [decide_eq_false h3] at HRES
    clear h3
    go_enter Tryz.func15, Tryz.ntmps15
    go_wp2_with fail
    go_ret
    exact ⟨by rw [HRES.out]; rfl, Q.out⟩
  ·have h2I : (no == 0) = false := by rw [beq_eq_false_iff_ne]; exact h2
   rw [decide_eq_false h2] at HRES
   clear h2
   go_enter Tryz.func15, Tryz.ntmps15
   go_wp2_with fail
   go_ret
   exact ⟨by rw [HRES.out]; rfl, Q.out⟩
 ·rw [decide_eq_false h1] at hz HRES
  clear h1
  go_enter Tryz.func15, Tryz.ntmps15
  go_wp2_with fail
  go_ret
  exact ⟨by rw [HRES.out]; rfl, Q.out⟩
theorem refMay_any8 (W : World) (x : Ac) (sv : Value) (hx : AcOk x) (hs : SlotsAt W sv x.slots) :
  Calls Tryz.prog 32 #[.agg (acC x sv)] W fun e w' => e = .returned (.bool (mayB x)) ∧ Below W.heap.size W w' := by
 have B := Has.new W 31 (acC x sv)
 have hq := (Below.refl W.heap.size W).alloc (Nat.le_refl _) (.cells (acC x sv) 31)
 have Q := hid hq
 obtain ⟨c0, c1, c2, c3, c4, c5, c6⟩ := B.acc
 have HC := hid (refRight_any _ sv x.slots (hs.later hq))
 have HRES := hid (show mayB x = (decide (0 ≤ x.non) && (decide (x.non ≤ 9007199254740992) && (decide (x.code.size ≤ 24576) && rightB' x.slots))) from rfl)
 have hcs := hx.code
 generalize mayB x = res at *
 generalize rightB' x.slots = rb at *
 generalize acC x sv = cs at *
 generalize x.non = no at *
 generalize x.code = code at *
 replace B := hid B
 clear hs hx hq
 have hcI : (code.size : Int) ≤ 140737488355328 := by omega
 clear hcs
 by_cases h1 : 0 ≤ no
 ·rw [decide_eq_true h1] at HRES
  by_cases h2 : no ≤ 9007199254740992
  ·rw [decide_eq_true h2] at HRES
   by_cases h3 : code.size ≤ 24576
   ·rw [decide_eq_true h3] at HRES
    have h3I : (code.size : Int) ≤ 24576 := by omega
    clear h3
    go_enter Tryz.func32, Tryz.ntmps32
    go_wp2_with fail
    refine HC.out.mono ?_
    rintro _ w1 ⟨rfl, hb⟩
    have QE := hid (Q.out.trans (hb.mono Q.out.size))
    clear hb HC
    go_wp2_with fail
    go_ret
    exact ⟨by rw [HRES.out]; rfl, QE.out⟩
   ·rw [decide_eq_false h3] at HRES
    have h3I : ¬ (code.size : Int) ≤ 24576 := by omega
    clear h3
    go_enter Tryz.func32, Tryz.ntmps32
    go_wp2_with fail
    go_ret
    exact ⟨by rw [HRES.out]; rfl, Q.out⟩
  ·rw [decide_eq_false h2] at HRES
   go_enter Tryz.func32, Tryz.ntmps32
   go_wp2_with fail
   go_ret
   exact ⟨by rw [HRES.out]; rfl, Q.out⟩
 ·rw [decide_eq_false h1] at HRES
  go_enter Tryz.func32, Tryz.ntmps32
  go_wp2_with fail
  go_ret
  exact ⟨by rw [HRES.out]; rfl, Q.out⟩
theorem adB_step (n k : Nat) (h : k < 20) : n / 256 ^ (19 - k) = 256 * (n / 256 ^ (20 - k)) + adB n k := by
 unfold adB
 have e : 256 ^ (20 - k) = 256 ^ (19 - k) * 256 := by rw [show 20 - k = 19 - k + 1 by omega, Nat.pow_succ]
 rw [e, ← Nat.div_div_eq_div_mul]
 omega
theorem ad_same {a b : Nat} (ha : a < 256 ^ 20) (hb : b < 256 ^ 20) : ∀ k, k ≤ 20 → (∀ j, j < k → adB a j = adB b j) → a / 256 ^ (20 - k) = b / 256 ^ (20 - k)
 | 0, _, _ => by rw [Nat.div_eq_of_lt ha, Nat.div_eq_of_lt hb]
 | k + 1, hk, h => by
  have ih := ad_same ha hb k (by omega) (fun j hj => h j (by omega))
  rw [show 20 - (k + 1) = 19 - k by omega, adB_step a k (by omega), adB_step b k (by omega), ih, h k (by omega)]
theorem ad_less {a b k : Nat} (ha : a < 256 ^ 20) (hb : b < 256 ^ 20) (hk : k < 20) (h : ∀ j, j < k → adB a j = adB b j) (hne : adB a k ≠ adB b k) : a < b ↔ adB a k < adB b k := by
 have e := ad_same ha hb k (by omega) h
 have h1 := adB_step a k hk
 have h2 := adB_step b k hk
 rw [e] at h1
 have hp : 0 < 256 ^ (19 - k) := Nat.pow_pos (by decide)
 constructor
 ·intro hab
  have := Nat.div_le_div_right (c := 256 ^ (19 - k)) (Nat.le_of_lt hab)
  omega
 ·intro hd
  rcases Nat.lt_or_ge a b with h' | h'
  ·exact h'
  ·have := Nat.div_le_div_right (c := 256 ^ (19 - k)) h'
   omega
theorem ad_equal {a b : Nat} (ha : a < 256 ^ 20) (hb : b < 256 ^ 20) (h : ∀ j, j < 20 → adB a j = adB b j) : a = b := by
 have := ad_same ha hb 20 (Nat.le_refl _) h
 simpa using this
theorem refLess_any8 (W : World) (a b : Nat) (ha : a < 256 ^ 20) (hb : b < 256 ^ 20) :
  Calls Tryz.prog 33 #[.agg (adC a), .agg (adC b)] W fun e w' => e = .returned (.bool (decide (a < b))) ∧ Below W.heap.size W w' := by
 have hmx : Tryz.prog.follows .mixedOrders = true := by kernel_rfl
 have K1 := (Has.new W 25 (adC a)).alloc (.cells (adC b) 25)
 have K2 := Has.new (W.alloc (.cells (adC a) 25)) 25 (adC b)
 simp only [World.size_alloc] at K2
 have q0 := ((Below.refl W.heap.size W).alloc (Nat.le_refl _) (.cells (adC a) 25)).alloc (by simp) (.cells (adC b) 25)
 obtain ⟨V, hV⟩ : ∃ V, (W.alloc (.cells (adC a) 25)).alloc (.cells (adC b) 25) = V := ⟨_, rfl⟩
 rw [hV] at K1 K2 q0
 have HA := hid ha
 have HB := hid hb
 have Q := hid q0
 have HK1 := hid K1
 have HK2 := hid K2
 generalize hca : adC a = ca at *
 generalize hcb : adC b = cb at *
 replace hca := hid hca
 replace hcb := hid hcb
 clear K1 K2 q0 ha hb
 obtain ⟨Post, hPost⟩ : ∃ Post : Ending → World → Prop, (fun (e : Ending) (w' : World) => e = .returned (.bool (decide (a < b))) ∧ Below W.heap.size W w') = Post := ⟨_, rfl⟩
 have HF := hid (show ∀ X r, (r = true ↔ a < b) → Below W.heap.size W X → Post (.returned (.bool r)) X from fun X r h hX => by
  rw [← hPost]
  refine ⟨?_, hX⟩
  congr 2
  rw [Bool.eq_iff_iff, h, decide_eq_true_eq])
 rw [hPost]
 clear hPost
 go_enter Tryz.func33, Tryz.ntmps33
 go_wp2_with fail
 clear hV
 go_loopw [5] (fun i wr => ∃ k : Nat, k ≤ 20 ∧ i = .int .i64 (k : Int) ∧ (∀ j, j < k → adB a j = adB b j) ∧ Below V.heap.size V wr) (fun i _ => 20 - (intOf i).toNat)
 case atStart => exact ⟨0, by omega, rfl, fun j h => absurd h (by omega), Below.refl _ _⟩
 case round =>
  obtain ⟨k, hk, rfl, hlt, hq⟩ := hrel
  have HLT := hid hlt
  have HQ := hid hq
  have HKK := hid hk
  have hk0 : (0 : Int) ≤ (k : Int) := by omega
  have hkb : (k : Int) ≤ 20 := by omega
  clear hlt hq
  by_cases hkn : k < 20
  ·have hkI : (k : Int) < 20 := by omega
   have ga : ca[k]? = some (.int .u8 ((adB a k : Nat) : Int)) := by rw [← hca.out]; exact adC_get a k hkn
   have gb : cb[k]? = some (.int .u8 ((adB b k : Nat) : Int)) := by rw [← hcb.out]; exact adC_get b k hkn
   have c1 : ∀ z : Ext wr, z.w.cell? ⟨W.heap.size, k, none⟩ = some (.int .u8 ((adB a k : Nat) : Int)) := fun z => ((HK1.out.later HQ.out).later z.below).cell k _ ga
   have c2 : ∀ z : Ext wr, z.w.cell? ⟨W.heap.size + 1, k, none⟩ = some (.int .u8 ((adB b k : Nat) : Int)) := fun z => ((HK2.out.later HQ.out).later z.below).cell k _ gb
   have HN := hid hkn
   have HCM := hid (fun h => ad_less HA.out HB.out hkn HLT.out h)
   clear hk hkn ga gb
   by_cases hd : adB a k = adB b k
   ·have hdb : (((adB a k : Nat) : Int) == ((adB b k : Nat) : Int)) = true := by simp [hd]
    have HD := hid hd
    clear hd
    go_wp2_with fail
    refine wp_region_quietL (C := Grows wr) hmx (by kernel_rfl) (grows_refl wr) ?_
    repeat (go_big_quiet_step (fail))
    refine wpQuiet_nil ?_
    rintro _ ⟨z, rfl⟩
    have HE := hid (HQ.out.trans (z.below.mono HQ.out.size))
    clear c1 c2
    go_wp2_with fail
    go_roundw
    case rel => exact ⟨k + 1, by have := HN.out; omega, by simp, fun j hj => by
     rcases Nat.lt_or_ge j k with h | h
     ·exact HLT.out j h
     ·obtain rfl : j = k := by omega
      exact HD.out, HE.out⟩
    case measure => have := HN.out; simp [intOf]; omega
   ·have hdb : (((adB a k : Nat) : Int) == ((adB b k : Nat) : Int)) = false := by simp; omega
    have HL := hid (HCM.out hd)
    clear hd
    go_wp2_with fail
    refine wp_region_quietL (C := Grows wr) hmx (by kernel_rfl) (grows_refl wr) ?_
    repeat (go_big_quiet_step (fail))
    refine wpQuiet_nil ?_
    rintro _ ⟨z, rfl⟩
    have HE := hid (HQ.out.trans (z.below.mono HQ.out.size))
    have d1 : ∀ y : Ext z.w, y.w.cell? ⟨W.heap.size, k, none⟩ = some (.int .u8 ((adB a k : Nat) : Int)) := fun y => (cell_below y.below _ _ (c1 z))
    have d2 : ∀ y : Ext z.w, y.w.cell? ⟨W.heap.size + 1, k, none⟩ = some (.int .u8 ((adB b k : Nat) : Int)) := fun y => (cell_below y.below _ _ (c2 z))
    clear c1 c2
    go_wp2_with fail
    refine wp_region_quietL (C := Grows z.w) hmx (by kernel_rfl) (grows_refl z.w) ?_
    repeat (go_big_quiet_step (fail))
    refine wpQuiet_nil ?_
    rintro _ ⟨y, rfl⟩
    have HE2 := hid (HE.out.trans (y.below.mono HE.out.size))
    clear d1 d2
    go_wp2_with fail
    exact HF.out _ _ (by rw [decide_eq_true_eq, HL.out]) (Q.out.trans (HE2.out.mono Q.out.size))
  ·obtain rfl : k = 20 := by omega
   have hkk : ¬ ((20 : Nat) : Int) < 20 := by decide
   have hab := hid (show (false = true ↔ a < b) by
    have := ad_equal HA.out HB.out HLT.out
    simp
    omega)
   go_wp2_with fail
   exact HF.out _ _ hab.out (Q.out.trans (HQ.out.mono Q.out.size))
end Go.Proofs.YtkicmbdjihjgfaaGreatDoor
