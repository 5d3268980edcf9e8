/- Part. -/
import Derived.Test.YtkicmbdjihjgfaaGreatDoorH15
import Derived.Test.YtkicmbdjihjgfaaGreatDoorH01
import Derived.Test.YtkicmbdjihjgfaaGreatDoorH04
import Derived.Test.YtkicmbdjihjgfaaGreatDoorH02
import Derived.TacticsIn
import Derived.LoopIn
import Derived.Test.YtkicmbdjihjgfaaGreatDoorH05
set_option maxRecDepth 100000
set_option maxHeartbeats 16000000
namespace Go.Proofs.YtkicmbdjihjgfaaGreatDoor
section
open Go Go.RowKit
attribute [local go_sem] Oper.semAt_some Grows wide_fn
noncomputable def sameS (l m : List Ac) : Bool := @decide (l = m) (Classical.propDecidable _)
theorem sameS_true {l m : List Ac} (h : l = m) : sameS l m = true := by unfold sameS; exact @decide_eq_true _ (Classical.propDecidable _) h
theorem sameS_false {l m : List Ac} (h : l ≠ m) : sameS l m = false := by unfold sameS; exact @decide_eq_false _ (Classical.propDecidable _) h
theorem list_same {α : Type} {a b : List α} {n : Nat} (ha : a.length = n) (hb : b.length = n) (h : ∀ (j : Nat) (x y : α), a[j]? = some x → b[j]? = some y → x = y) : a = b := by
 refine List.ext_getElem? fun j => ?_
 by_cases hj : j < n
 ·rw [List.getElem?_eq_getElem (by omega), List.getElem?_eq_getElem (by omega)]
  exact congrArg some (h j _ _ (List.getElem?_eq_getElem (by omega)) (List.getElem?_eq_getElem (by omega)))
 ·rw [List.getElem?_eq_none (by omega), List.getElem?_eq_none (by omega)]
theorem equal_func (W : World) (sa sb : Value) (la lb : List Ac) (ha : StAt W sa la) (hb : StAt W sb lb) :
  Calls Tryz.prog 34 #[sa, sb, .func (.func 35) #[] #[]] W fun e w' => e = .returned (.bool (sameS la lb)) ∧ Below W.heap.size W w' := by
 obtain ⟨a, ca, rfl, ha1, ha2⟩ := ha.shape
 obtain ⟨b, cb, rfl, hb1, hb2⟩ := hb.shape
 have HA := hid ha
 have HB := hid hb
 obtain ⟨m, hm⟩ : ∃ m, la.length = m := ⟨_, rfl⟩
 obtain ⟨n, hn⟩ : ∃ n, lb.length = n := ⟨_, rfl⟩
 rw [hm] at HA ha1 ⊢
 rw [hn] at HB hb1 ⊢
 have HM := hid hm
 have HN := hid hn
 have hlc := hid (Nat.le_trans ha1 ha2)
 clear ha hb hm hn ha1 ha2 hb1 hb2
 by_cases hmn : m = n
 ·subst hmn
  obtain ⟨Post, hPost⟩ : ∃ Post : Ending → World → Prop, (fun (e : Ending) (w' : World) => e = .returned (.bool (sameS la lb)) ∧ Below W.heap.size W w') = Post := ⟨_, rfl⟩
  have hres := hid (show ∀ X, Below W.heap.size W X → (∀ (j : Nat) (x y : Ac), la[j]? = some x → lb[j]? = some y → x = y) → Post (.returned (.bool true)) X from fun X hX h => by
   rw [← hPost]
   exact ⟨by rw [sameS_true (list_same HM.out HN.out h)], hX⟩)
  have hno := hid (show ∀ X, Below W.heap.size W X → la ≠ lb → Post (.returned (.bool false)) X from fun X hX h => by
   rw [← hPost]
   exact ⟨by rw [sameS_false h], hX⟩)
  rw [hPost]
  clear hPost
  go_enter Tryz.func34, Tryz.ntmps34
  go_wp2_with fail
  go_loopw [17] (fun i wr => ∃ k : Nat, k ≤ m ∧ i = .int .i64 (k : Int) ∧ (∀ (j : Nat) (x y : Ac), j < k → la[j]? = some x → lb[j]? = some y → x = y) ∧ Below W.heap.size W wr) (fun i _ => m - (intOf i).toNat)
  case atStart => exact ⟨0, by omega, rfl, fun j x y h => absurd h (by omega), Below.refl _ _⟩
  case round =>
   obtain ⟨k, hk, rfl, hlt, hq⟩ := hrel
   have HLT := hid hlt
   have HQ := hid hq
   clear hlt hq
   by_cases hkn : k < m
   ·have hknI : (k : Int) < (m : Int) := by omega
    have hk0 : (0 : Int) ≤ (k : Int) := by omega
    have hkb : (k : Int) ≤ 9223372036854775806 := by have := hlc.out; omega
    obtain ⟨x, hx⟩ : ∃ x, la[k]? = some x := ⟨_, List.getElem?_eq_getElem (by have := HM.out; omega)⟩
    obtain ⟨y, hy⟩ : ∃ y, lb[k]? = some y := ⟨_, List.getElem?_eq_getElem (by have := HN.out; omega)⟩
    obtain ⟨b1, sx, rfl, ax⟩ := (HA.out.later HQ.out).at hx
    obtain ⟨a1, c1, rfl, _, _⟩ := ax.slots.shape
    obtain ⟨b2, sy, rfl, ay⟩ := (HB.out.later HQ.out).at hy
    obtain ⟨a2, c2, rfl, _, _⟩ := ay.slots.shape
    have hl1 := ax.load
    obtain ⟨cx, hcx⟩ : ∃ cx, acC x (.slice a1 x.slots.length c1) = cx := ⟨_, rfl⟩
    obtain ⟨cy, hcy⟩ : ∃ cy, acC y (.slice a2 y.slots.length c2) = cy := ⟨_, rfl⟩
    have hi1 := accRow x (.slice a1 x.slots.length c1) rfl
    have hi2 := accRow y (.slice a2 y.slots.length c2) rfl
    rw [hcx] at hl1 hi1
    rw [hcy] at hi2
    obtain ⟨V3, hV3, h42, q3⟩ := newK0 wr
    obtain ⟨V4, hV4⟩ : ∃ V4, V3.setRow wr.heap.size cx = V4 := ⟨_, rfl⟩
    have h4 : Has V4 wr.heap.size 31 cx := by rw [← hV4]; exact setRow_heap _ _ _ _ _ _ h42
    have q4 : Below wr.heap.size wr V4 := by rw [← hV4]; exact below_rowAc q3 (g := wr.heap.size) (Nat.le_refl _) cx
    have hl2 := (ay.later q4).load
    rw [hcy] at hl2
    obtain ⟨V5, hV5, h52, q5⟩ := newK0 V4
    obtain ⟨V6, hV6⟩ : ∃ V6, V5.setRow V4.heap.size cy = V6 := ⟨_, rfl⟩
    have h6 : Has V6 V4.heap.size 31 cy := by rw [← hV6]; exact setRow_heap _ _ _ _ _ _ h52
    have q6 : Below V4.heap.size V4 V6 := by rw [← hV6]; exact below_rowAc q5 (g := V4.heap.size) (Nat.le_refl _) cy
    have hl5 := (show Has V6 wr.heap.size 31 (acC x (.slice a1 x.slots.length c1)) by rw [hcx]; exact h4.later q6).accLoad
    have hl6 := (show Has V6 V4.heap.size 31 (acC y (.slice a2 y.slots.length c2)) by rw [hcy]; exact h6).accLoad
    rw [hcx] at hl5
    rw [hcy] at hl6
    have qr6 := q4.trans (q6.mono q4.size)
    have KA := hid (alike_any V6 x y _ _ (HA.out.ok hx) (HB.out.ok hy) (ax.slots.later qr6) (ay.slots.later qr6))
    rw [hcx, hcy] at KA
    have Q6 := hid (HQ.out.trans (qr6.mono HQ.out.size))
    have HX := hid (And.intro hx (And.intro hy hkn))
    clear hx hy hkn ax ay hcx hcy q3 q4 q5 q6 qr6 h4 h6 hk
    go_wp2_with (first | (refine wpList_load_known rfl _ (.tmp 20) rfl _ rfl _ hl1 ?_) | (refine wpList_load_known rfl _ (.tmp 24) rfl _ rfl _ hl2 ?_) | (refine wpList_load_known rfl _ (.tmp 8) rfl _ rfl _ hl5 ?_) | (refine wpList_load_known rfl _ (.tmp 9) rfl _ rfl _ hl6 ?_) | (refine wpList_store_row rfl _ (.tmp 8) (.tmp 21) rfl _ _ rfl rfl _ _ h42 hi1.1 hi1.2.1 hi1.2.2 ?_; rw [hV4]) | (refine wpList_store_row rfl _ (.tmp 9) (.tmp 25) rfl _ _ rfl rfl _ _ h52 hi2.1 hi2.2.1 hi2.2.2 ?_; rw [hV6]))
    refine KA.out.mono ?_
    rintro _ w7 ⟨rfl, q7⟩
    have Q7 := hid (Q6.out.trans (q7.mono Q6.out.size))
    clear q7 KA hl1 hl2 hl5 hl6 h42 h52 hi1 hi2 hV3 hV4 hV5 hV6
    by_cases hxy : x = y
    ·have HXY := hid hxy
     rw [sameA_true hxy]
     clear hxy
     go_wp2_with fail
     go_roundw
     case rel => exact ⟨k + 1, by have := HX.out.2.2; omega, by simp, fun j x' y' hj hx hy => by
      by_cases hjk : j < k
      ·exact HLT.out j x' y' hjk hx hy
      ·obtain rfl : j = k := by omega
       rw [HX.out.1] at hx
       rw [HX.out.2.1] at hy
       injection hx with hx
       injection hy with hy
       rw [← hx, ← hy]
       exact HXY.out, Q7.out⟩
     case measure => have := HX.out.2.2; simp [intOf]; omega
    ·rw [sameA_false hxy]
     have HXY := hid (show la ≠ lb from fun h => hxy (by
      have h1 := HX.out.1
      rw [h, HX.out.2.1] at h1
      injection h1 with h1
      exact h1.symm))
     clear hxy
     go_wp2_with fail
     exact hno.out _ Q7.out HXY.out
   ·have hknI : ¬ (k : Int) < (m : Int) := by omega
    have HR := hid (show ∀ (j : Nat) (x y : Ac), la[j]? = some x → lb[j]? = some y → x = y from fun j x y hx hy => HLT.out j x y (by
     have := (List.getElem?_eq_some_iff.1 hx).1
     have := HM.out
     omega) hx hy)
    go_wp2_with fail
    exact hres.out _ HQ.out HR.out
 ·have hI : ¬ (m : Int) = (n : Int) := by omega
  have hne := hid (show la ≠ lb from fun h => hmn (by rw [← HM.out, ← HN.out, h]))
  clear hmn
  go_enter Tryz.func34, Tryz.ntmps34
  go_wp2_with fail
  go_ret
  exact ⟨by rw [sameS_false hne.out]; rfl, Below.refl _ _⟩
theorem same_st (W : World) (sa sb : Value) (la lb : List Ac) (ha : StAt W sa la) (hb : StAt W sb lb) :
  Calls Tryz.prog 12 #[sa, sb] W fun e w' => e = .returned (.bool (sameS la lb)) ∧ Below W.heap.size W w' := by
 have H := hid (equal_func W sa sb la lb ha hb)
 clear ha hb
 generalize sameS la lb = r at *
 go_enter Tryz.func12, Tryz.ntmps12
 go_wp2_with fail
 refine H.out.mono ?_
 rintro _ w1 ⟨rfl, q⟩
 have Q := hid q
 clear q H
 go_wp2_with fail
 go_ret
 exact ⟨rfl, Q.out⟩
end
section
inductive It where
 | mk (list : Bool) (bytes : ByteArray) (kids : List It)
def It.kids : It → List It
 | .mk _ _ ks => ks
def It.bytes : It → ByteArray
 | .mk _ b _ => b
def It.list : It → Bool
 | .mk l _ _ => l
theorem It.lt_of_kid {l : Bool} {b : ByteArray} {ks : List It} {k : It} (h : k ∈ ks) : SizeOf.sizeOf k < SizeOf.sizeOf (It.mk l b ks) := by
 have := List.sizeOf_lt_of_mem h
 simp only [It.mk.sizeOf_spec]
 omega
theorem It.kid_lt {t k : It} (h : k ∈ t.kids) : SizeOf.sizeOf k < SizeOf.sizeOf t := by
 obtain ⟨l, b, ks⟩ := t
 exact It.lt_of_kid h
theorem It.induct {P : It → Prop} (h : ∀ t, (∀ k ∈ t.kids, P k) → P t) : ∀ t, P t := by
 have H : ∀ (n : Nat) (t : It), SizeOf.sizeOf t < n → P t := by
  intro n
  induction n with
  | zero => intro t h; omega
  | succ n ih => intro t ht; exact h t (fun k hk => ih k (by have := It.kid_lt hk; omega))
 exact fun t => H _ t (Nat.lt_succ_self _)
def val256 : Nat → List UInt8 → Nat
 | n, [] => n
 | n, c :: r => val256 (n * 256 + c.toNat) r
def noNought : List UInt8 → List UInt8
 | [] => []
 | c :: r => if c = 0 then noNought r else c :: r
def digs (n : Nat) : List UInt8 := if h : n = 0 then [] else digs (n / 256) ++ [UInt8.ofNat (n % 256)]
decreasing_by omega
def headL (kind n : Nat) : List UInt8 := if n ≤ 55 then [UInt8.ofNat (kind + n)] else UInt8.ofNat (kind + 55 + (digs n).length) :: digs n
def bareB (l : List UInt8) : Bool := match l with
 | [c] => decide (c.toNat < 128)
 | _ => false
mutual
def encI : It → List UInt8
 | .mk l b ks => if l then headL 192 (encL ks).length ++ encL ks else if bareB b.data.toList then b.data.toList else headL 128 b.data.toList.length ++ b.data.toList
def encL : List It → List UInt8
 | [] => []
 | k :: ks => encI k ++ encL ks
end
mutual
def countI : It → Nat
 | .mk _ _ ks => 1 + countL ks
def countL : List It → Nat
 | [] => 0
 | k :: ks => countI k + countL ks
end
theorem countI_eq (t : It) : countI t = 1 + countL t.kids := by
 obtain ⟨l, b, ks⟩ := t
 rw [countI]
 rfl
theorem countI_pos (t : It) : 1 ≤ countI t := by rw [countI_eq]; omega
def RightI : Nat → It → Prop
 | 0, _ => False
 | d + 1, t => (t.list = true → t.bytes = ⟨#[]⟩) ∧ (t.list = false → t.kids.length = 0) ∧ ∀ k ∈ t.kids, RightI d k
end
section
open Go Go.RowKit
mutual
def ItemAt (W : World) : It → Value → Prop
 | .mk l b ks, v => ∃ a cap, v = .agg #[.bool l, .string b, .slice a ks.length cap] ∧ ks.length ≤ 1099511627776 ∧ b.size ≤ 140737488355328 ∧ (ks = [] ∨ ∃ g o, a = some ⟨g, o, none⟩ ∧ KidsAt W ks g o)
def KidsAt (W : World) : List It → Nat → Nat → Prop
 | [], _, _ => True
 | k :: ks, g, o => (∃ v0 v1 v2, W.cell? ⟨g, o, none⟩ = some v0 ∧ W.cell? ⟨g, o + 1, none⟩ = some v1 ∧ W.cell? ⟨g, o + 2, none⟩ = some v2 ∧ ItemAt W k (.agg #[v0, v1, v2])) ∧ KidsAt W ks g (o + 3)
end
theorem ltCell {W : World} {b j : Nat} {v : Value} (h : W.cell? ⟨b, j, none⟩ = some v) : b < W.heap.size := by
 rcases Nat.lt_or_ge b W.heap.size with h' | h'
 ·exact h'
 ·simp [World.cell?, Array.getElem?_eq_none h'] at h
mutual
theorem ItemAt.later {W X : World} (hb : Below W.heap.size W X) : ∀ {t : It} {v : Value}, ItemAt W t v → ItemAt X t v
 | .mk l b ks, v, h => by
  unfold ItemAt at h ⊢
  obtain ⟨a, cap, hv, hn, hs, hk⟩ := h
  refine ⟨a, cap, hv, hn, hs, ?_⟩
  rcases hk with h0 | ⟨g, o, ha, hk⟩
  ·exact .inl h0
  ·exact .inr ⟨g, o, ha, KidsAt.later hb hk⟩
theorem KidsAt.later {W X : World} (hb : Below W.heap.size W X) : ∀ {ks : List It} {g o : Nat}, KidsAt W ks g o → KidsAt X ks g o
 | [], _, _, _ => by unfold KidsAt; trivial
 | k :: ks, g, o, h => by
  unfold KidsAt at h ⊢
  obtain ⟨⟨v0, v1, v2, h0, h1, h2, hk⟩, hr⟩ := h
  exact ⟨⟨v0, v1, v2, (hb.cell (p := ⟨g, o, none⟩) (ltCell h0)).trans h0, (hb.cell (p := ⟨g, o + 1, none⟩) (ltCell h0)).trans h1, (hb.cell (p := ⟨g, o + 2, none⟩) (ltCell h0)).trans h2, ItemAt.later hb hk⟩, KidsAt.later hb hr⟩
end
theorem KidsAt.get {W : World} : ∀ {ks : List It} {g o : Nat} (_ : KidsAt W ks g o) (j : Nat) (k : It), ks[j]? = some k →
  ∃ v0 v1 v2, W.cell? ⟨g, o + j * 3, none⟩ = some v0 ∧ W.cell? ⟨g, o + j * 3 + 1, none⟩ = some v1 ∧ W.cell? ⟨g, o + j * 3 + 2, none⟩ = some v2 ∧ ItemAt W k (.agg #[v0, v1, v2])
 | [], _, _, _, j, k, h => by simp at h
 | k0 :: ks, g, o, hK, 0, k, h => by
  unfold KidsAt at hK
  simp at h
  subst h
  simpa using hK.1
 | k0 :: ks, g, o, hK, j + 1, k, h => by
  unfold KidsAt at hK
  have h' : ks[j]? = some k := by simpa using h
  obtain ⟨v0, v1, v2, h0, h1, h2, hi⟩ := KidsAt.get hK.2 j k h'
  rw [show o + 3 + j * 3 = o + (j + 1) * 3 by omega] at h0 h1 h2
  exact ⟨v0, v1, v2, h0, h1, h2, hi⟩
theorem ItemAt.open {W : World} {t : It} {v : Value} (h : ItemAt W t v) :
  ∃ a cap, v = .agg #[.bool t.list, .string t.bytes, .slice a t.kids.length cap] ∧ t.kids.length ≤ 1099511627776 ∧ t.bytes.size ≤ 140737488355328 ∧ (t.kids = [] ∨ ∃ g o, a = some ⟨g, o, none⟩ ∧ KidsAt W t.kids g o) := by
 obtain ⟨l, b, ks⟩ := t
 unfold ItemAt at h
 exact h
theorem cell_block {W : World} {b j : Nat} {v : Value} (h : W.cell? ⟨b, j, none⟩ = some v) : ∃ o, W.heap[b]? = some o ∧ o.isCells = true := by
 unfold World.cell? at h
 rcases ho : W.heap[b]? with _ | o
 ·simp [ho] at h
 ·refine ⟨o, rfl, ?_⟩
  cases o <;> simp_all [Obj.isCells]
def KeepsCells (A X : World) : Prop := ∀ (b : Nat) (o : Obj), A.heap[b]? = some o → o.isCells = true → X.heap[b]? = some o
theorem keeps_own {A X : World} {row : Option Nat} (hg : A.grownBy X row) (hr : ∀ r, row = some r → ∃ o : Obj, A.heap[r]? = some o ∧ o.isCells = false) : KeepsCells A X := fun b o ho hc =>
 (hg.block b (Array.getElem?_eq_some_iff.1 ho).1 (fun e => by
  obtain ⟨o', ho', hc'⟩ := hr b e.symm
  rw [ho] at ho'
  cases ho'
  rw [hc] at hc'
  cases hc')).trans ho
theorem KidsAt.get3 {W : World} {ks : List It} {g o : Nat} (hK : KidsAt W ks g o) (j : Nat) (k : It) (h : ks[j]? = some k) :
  ∃ l b a n cap, W.cell? ⟨g, o + j * 3, none⟩ = some (.bool l) ∧ W.cell? ⟨g, o + j * 3 + 1, none⟩ = some (.string b) ∧ W.cell? ⟨g, o + j * 3 + 2, none⟩ = some (.slice a n cap) ∧ ItemAt W k (.agg #[.bool l, .string b, .slice a n cap]) := by
 obtain ⟨v0, v1, v2, h0, h1, h2, hi⟩ := hK.get j k h
 obtain ⟨a, cap, hv, _⟩ := hi.open
 injection hv with hv
 injection hv with hv
 injection hv with e0 hv
 injection hv with e1 hv
 injection hv with e2 hv
 subst e0 e1 e2
 exact ⟨_, _, _, _, _, h0, h1, h2, hi⟩
end
section
open Go Go.RowKit
attribute [local go_sem] Oper.semAt_some Grows wide_fn
noncomputable def rightB (d : Nat) (t : It) : Bool := @decide (RightI d t) (Classical.propDecidable _)
theorem rightB_iff (d : Nat) (t : It) : rightB d t = true ↔ RightI d t := by unfold rightB; exact @decide_eq_true_iff _ (Classical.propDecidable _)
theorem rightB_false {d : Nat} {t : It} (h : ¬ RightI d t) : rightB d t = false := by
 rcases hb : rightB d t with _ | _
 ·rfl
 ·exact absurd ((rightB_iff d t).1 hb) h
theorem bytes_ne {b c : ByteArray} (h : ¬ b = c) : (b.toList == c.toList) = false := by
 rcases hx : (b.toList == c.toList) with _ | _
 ·rfl
 ·have e := eq_of_beq hx
  rw [ByteArray.toList_eq, ByteArray.toList_eq] at e
  exact absurd (ByteArray.ext (Array.toList_inj.1 e)) h
def KidsIn (W : World) (ks : List It) (a : Option Addr) : Prop := ks = [] ∨ ∃ g o, a = some ⟨g, o, none⟩ ∧ KidsAt W ks g o
theorem KidsIn.later {W X : World} (hb : Below W.heap.size W X) {ks : List It} {a : Option Addr} (h : KidsIn W ks a) : KidsIn X ks a := by
 rcases h with h | ⟨g, o, e, h⟩
 ·exact .inl h
 ·exact .inr ⟨g, o, e, h.later hb⟩
theorem countL_take : ∀ (ks : List It) (k : Nat) (x : It), ks[k]? = some x → countL (ks.take (k + 1)) = countL (ks.take k) + countI x
 | [], k, x, h => by simp at h
 | y :: ks, 0, x, h => by
  simp at h
  subst h
  simp [countL]
 | y :: ks, k + 1, x, h => by
  have h' : ks[k]? = some x := by simpa using h
  have := countL_take ks k x h'
  simp only [List.take_succ_cons, countL] at this ⊢
  omega
theorem countL_part : ∀ (ks : List It) (k : Nat), countL (ks.take k) ≤ countL ks
 | [], k => by simp [countL]
 | y :: ks, 0 => by simp [countL]
 | y :: ks, k + 1 => by
  have := countL_part ks k
  simp only [List.take_succ_cons, countL]
  omega
mutual
def preI : Nat → It → List (Nat × It)
 | d, .mk l b ks => (d, .mk l b ks) :: preL (d + 1) ks
def preL : Nat → List It → List (Nat × It)
 | _, [] => []
 | d, k :: ks => preI d k ++ preL d ks
end
theorem preI_eq (d : Nat) (t : It) : preI d t = (d, t) :: preL (d + 1) t.kids := by
 obtain ⟨l, b, ks⟩ := t
 rw [preI]
 rfl
mutual
theorem preI_length : ∀ (d : Nat) (t : It), (preI d t).length = countI t
 | d, .mk l b ks => by rw [preI, countI, List.length_cons, preL_length (d + 1) ks]; omega
theorem preL_length : ∀ (d : Nat) (ts : List It), (preL d ts).length = countL ts
 | d, [] => by simp [preL, countL]
 | d, k :: ks => by rw [preL, countL, List.length_append, preI_length d k, preL_length d ks]
end
theorem preL_at : ∀ (d : Nat) (ks : List It) (j : Nat) (x : It) (i : Nat), ks[j]? = some x → i < countI x → (preL d ks)[countL (ks.take j) + i]? = (preI d x)[i]?
 | d, [], j, x, i, h, _ => by simp at h
 | d, k :: ks, 0, x, i, h, hi => by
  simp at h
  subst h
  rw [preL, show (countL ((k :: ks).take 0)) = 0 by simp [countL], Nat.zero_add, List.getElem?_append_left (by rw [preI_length]; exact hi)]
 | d, k :: ks, j + 1, x, i, h, hi => by
  have h' : ks[j]? = some x := by simpa using h
  rw [preL, List.take_succ_cons, countL, List.getElem?_append_right (by rw [preI_length]; omega), preI_length, show countI k + countL (ks.take j) + i - countI k = countL (ks.take j) + i by omega]
  exact preL_at d ks j x i h' hi
theorem countI_kid {t k : It} (h : k ∈ t.kids) : countI k + 1 ≤ countI t := by
 rw [countI_eq t]
 obtain ⟨j, hj⟩ := List.getElem?_of_mem h
 have h1 := countL_take t.kids j k hj
 have h2 := countL_part t.kids (j + 1)
 omega
def Kd (n : Nat) (A X : World) : Prop := Below n A X ∧ ∀ (b : Nat) (cs : Array Value) (h : Nat × Nat), n ≤ b → A.heap[b]? = some (.cells cs 78 h) → X.heap[b]? = some (.cells cs 78 h)
theorem Kd.refl (n : Nat) (A : World) : Kd n A A := ⟨Below.refl _ _, fun _ _ _ _ h => h⟩
theorem Kd.trans {n : Nat} {A B C : World} (h : Kd n A B) (k : Kd n B C) : Kd n A C := ⟨h.1.trans k.1, fun b cs m hb hA => k.2 b cs m hb (h.2 b cs m hb hA)⟩
theorem Kd.grow {n : Nat} {A X : World} (h : Below A.heap.size A X) (hn : n ≤ A.heap.size) : Kd n A X := ⟨h.mono hn, fun b _ _ _ hA => (h.block b (Array.getElem?_eq_some_iff.1 hA).1).trans hA⟩
theorem Kd.has {n : Nat} {A X : World} (h : Kd n A X) {B : Nat} {cs : Array Value} (hA : Has A B 78 cs) : Has X B 78 cs := by
 rcases Nat.lt_or_ge B n with hB | hB
 ·exact (h.1.block B hB).trans hA
 ·exact h.2 B cs (0, 0) hB hA
theorem Kd.put {n : Nat} (W : World) (l : Nat) (o o' : Obj) (hn : n ≤ l) (hl : W.heap[l]? = some o) (ho : o.isCells = false) : Kd n W (W.putObj l o') :=
 ⟨⟨rfl, rfl, rfl, by simp, fun k hk => World.putObj_heap_other (by omega)⟩, fun b cs h _ hA => (World.putObj_heap_other (fun e => by
  subst e
  rw [hl] at hA
  cases hA
  cases ho)).trans hA⟩
theorem roundIn_anyR {n m : Nat} {P : Program} {l : Nat} {f : FuncId} {tmps : Array Value} {assign body : Code} {w : World} {R : Ending → World → Prop} (h : RoundIn Fence.wide n P l f tmps assign body w R) : RoundIn Fence.wide m P l f tmps assign body w R :=
 ⟨h.1, fun c cs _ => h.2 c cs (room_wide _)⟩
theorem yieldAt_anyR {n m : Nat} {P : Program} {l : Nat} {args : Array Value} {W : World} {R : Ending → World → Prop} (h : YieldAt Fence.wide n P l args W R) : YieldAt Fence.wide m P l args W R := by
 obtain ⟨fn, tmps, assign, body, h1, h2⟩ := h
 exact ⟨fn, tmps, assign, body, h1, roundIn_anyR h2⟩
def EI (w0 : World) (d : Nat) (t : It) (k : Nat) (args : Array Value) (_ : World) : Prop := ∃ d' x v, (preI d t)[k]? = some (d', x) ∧ args = #[.int .i64 ((d' : Nat) : Int), v] ∧ ItemAt w0 x v
def TellP (t : It) (k0 n0 : Nat) (J Jx : Nat → World → Prop) (W : World) (e : Ending) (W' : World) : Prop :=
 (e = .returned (.bool true) ∧ J (k0 + countI t) W' ∧ Kd n0 W W') ∨ (e = .returned (.bool false) ∧ ∃ k, k < countI t ∧ Jx (k0 + k) W')
def TellAt (t : It) : Prop := ∀ (w0 : World) (v : Value), ItemAt w0 t v → ∀ (l m d k0 : Nat) (J Jx : Nat → World → Prop) (W : World), d + countI t ≤ 1099511627776 → Below w0.heap.size w0 W →
 (∀ s A X, J s A → Below A.heap.size A X → J s X) → (∀ s A X, Jx s A → Below A.heap.size A X → Jx s X) →
 (∀ k args W1, k < countI t → J (k0 + k) W1 → EI w0 d t k args W1 → YieldAt Fence.wide m Tryz.prog l args W1 fun e W' =>
  (e = .returned (.bool true) ∧ J (k0 + k + 1) W' ∧ Kd w0.heap.size W1 W') ∨ (e = .returned (.bool false) ∧ Jx (k0 + k) W')) →
 J k0 W →
 Calls Tryz.prog 98 #[v, .int .i64 (d : Int), .func (.yield l) #[] #[]] W (TellP t k0 w0.heap.size J Jx W)
theorem tell_step (t : It) (IH : ∀ k ∈ t.kids, TellAt k) : TellAt t := by
 intro w0 v ht l m d k0 J Jx W hd hW hJA hJxA hY h0
 obtain ⟨a, cap, rfl, hn, hs, hk⟩ := ht.open
 have hY0 := hY 0 #[.int .i64 (d : Int), .agg #[.bool t.list, .string t.bytes, .slice a t.kids.length cap]]
 refine (callsIn_wide (n := 4)).1 ?_
 refine callsIn_of_wp Tryz.func98 rfl trivial ?_ rfl
 simp only [Tryz.ntmps98, List.size_toArray, List.length_cons, List.length_nil, Nat.reduceAdd, Nat.reduceSub, Array.replicate_succ, Array.replicate_zero, List.push_toArray, List.append_toArray, List.nil_append, List.cons_append]
 obtain ⟨W1, hW1, LX, QW⟩ := newBox W 78 #[.bool t.list, .string t.bytes, .slice a t.kids.length cap]
 have J1 := hJA _ _ _ h0 QW
 have hW0 := hW.trans (QW.mono hW.size)
 have kd1 := Kd.grow QW hW.size
 obtain ⟨fn, tmps, assign, body, hy, hR⟩ := hY0 W1 (by have := countI_pos t; omega) J1 ⟨d, t, _, by rw [preI_eq]; rfl, rfl, ht⟩
 have c0 := LX.cell 0 _ rfl
 have c1 := LX.cell 1 _ rfl
 have c2 := LX.cell 2 _ rfl
 have HY := hid hY
 have HJ := hid (And.intro hJA hJxA)
 have HK := hid hk
 have HI := hid IH
 have HT := hid ht
 have HC := hid (countI_eq t)
 have HCT := hid (show ∀ k ∈ t.kids, countI k + 1 ≤ countI t from fun k h => countI_kid h)
 have HCP := hid (show 0 < countI t from countI_pos t)
 have HP := hid (preI_eq d t)
 replace LX := hid LX
 replace QW := hid QW
 replace hW0 := hid hW0
 replace kd1 := hid kd1
 replace hW := hid hW
 clear hY hY0 hJA hJxA hk IH h0 J1 ht
 generalize t.list = tl at *
 generalize t.bytes = b at *
 generalize t.kids = ks at *
 obtain ⟨n, en⟩ : ∃ n, ks.length = n := ⟨_, rfl⟩
 rw [en] at hn hy LX hW1 c2 ⊢
 replace en := hid en
 gi_wp2_with fail
 refine (roundIn_anyR hR).mono ?_
 have HEND : ∀ (k : Nat) (X : World), k < countI t → Jx (k0 + k) X → TellP t k0 w0.heap.size J Jx W (.returned (.bool false)) X := fun k X h1 h2 => .inr ⟨rfl, k, h1, h2⟩
 replace HEND := hid HEND
 rintro e W2 (⟨rfl, hJ2, hk2⟩ | ⟨rfl, hJx2⟩)
 ·have L2 := hk2.has LX.out
  have kd2 := hid (kd1.out.trans hk2)
  have c0 := L2.cell 0 _ rfl
  have c1 := L2.cell 1 _ rfl
  have c2 := L2.cell 2 _ rfl
  replace L2 := hid L2
  replace hJ2 := hid hJ2
  have hsz2 := hid (Nat.lt_of_lt_of_le LX.out.lt hk2.1.size)
  clear hk2 hR hy LX QW hW0 kd1 hW1
  gi_wp2_with fail
  gi_loopw [17] (fun i wr => ∃ k : Nat, k ≤ n ∧ i = .int .i64 (k : Int) ∧ J (k0 + (1 + countL (ks.take k))) wr ∧ Kd w0.heap.size W wr) (fun i _ => n - (intOf i).toNat)
  case atStart => exact ⟨0, by omega, rfl, by rw [show countL (ks.take 0) = 0 by simp [countL]]; exact hJ2.out, kd2.out⟩
  case round =>
   clear hJ2 kd2 L2 c0 c1 c2 hsz2
   obtain ⟨k, hkn, rfl, hJ, kd⟩ := hrel
   by_cases hk5 : k < n
   ·have hkI : (k : Int) < (n : Int) := by omega
    have hk0 : (0 : Int) ≤ (k : Int) := by omega
    obtain ⟨g, o, rfl, hK⟩ := HK.out.resolve_left (fun h => by have h2 := en.out; rw [h] at h2; simp at h2; omega)
    obtain ⟨kx, hkx⟩ : ∃ kx, ks[k]? = some kx := ⟨_, List.getElem?_eq_getElem (by have := en.out; omega)⟩
    have hm : kx ∈ ks := List.mem_of_getElem? hkx
    obtain ⟨l1, b1, a1, n1, cap1, e0, e1, e2, hi⟩ := hK.get3 k _ hkx
    have hB := hW.out.trans kd.1
    replace e0 := (hB.cell (p := ⟨g, _, none⟩) (ltCell e0)).trans e0
    replace e1 := (hB.cell (p := ⟨g, _, none⟩) (ltCell e1)).trans e1
    replace e2 := (hB.cell (p := ⟨g, _, none⟩) (ltCell e2)).trans e2
    have NX := Has.new wr 78 #[.bool false, .string ⟨#[]⟩, .slice none 0 0]
    have x0 := NX.cell 0 _ rfl
    have x1 := NX.cell 1 _ rfl
    have x2 := NX.cell 2 _ rfl
    have f0 := NX.frozen 0
    have f1 := NX.frozen 1
    have f2 := NX.frozen 2
    replace NX := hid NX
    have q := newA wr (.cells #[.bool l1, .string b1, .slice a1 n1 cap1] 78)
    have hct := HCT.out kx hm
    have hpart := countL_part ks (k + 1)
    have htake := countL_take ks k kx hkx
    have HCALL := HI.out kx hm w0 _ hi l m (d + 1) (k0 + (1 + countL (ks.take k))) J Jx (wr.alloc (.cells #[.bool l1, .string b1, .slice a1 n1 cap1] 78)) (by omega) (hB.trans (q.mono hB.size)) HJ.out.1 HJ.out.2
     (fun i args W1 hi' hJi hE => by
      have hC := HC.out
      rw [show k0 + (1 + countL (ks.take k)) + i = k0 + (1 + countL (ks.take k) + i) by omega] at hJi ⊢
      refine HY.out (1 + countL (ks.take k) + i) args W1 (by omega) hJi ?_
      obtain ⟨d', x, v', h1, h2, h3⟩ := hE
      refine ⟨d', x, v', ?_, h2, h3⟩
      rw [HP.out, show 1 + countL (ks.take k) + i = (countL (ks.take k) + i) + 1 by omega, List.getElem?_cons_succ, preL_at (d + 1) ks k kx i hkx hi']
      exact h1)
     (HJ.out.1 _ _ _ hJ q)
    have hnx := hid (show k0 + (1 + countL (ks.take k)) + countI kx = k0 + (1 + countL (ks.take (k + 1))) by omega)
    have kdA := hid (kd.trans (Kd.grow q hB.size))
    have hCk := hid (show ∀ i, i < countI kx → 1 + countL (ks.take k) + i < countI t ∧ k0 + (1 + countL (ks.take k)) + i = k0 + (1 + countL (ks.take k) + i) from fun i hi' => by have := HC.out; omega)
    have hdI : (d : Int) + 1 ≤ 1099511627776 := by omega
    have hd0 : (0 : Int) ≤ (d : Int) := by omega
    rw [show ((d + 1 : Nat) : Int) = (d : Int) + 1 by omega] at HCALL
    replace HCALL := hid HCALL
    have lg := ltCell e0
    clear hB hi hK HK hJ kd q hct hpart htake hd HT HP HY HJ HI HCT HC hkx
    gi_wp2_with fail
    refine (callsIn_free free_wide HCALL.out).mono ?_
    rintro e W3 (⟨rfl, hJ3, hk3⟩ | ⟨rfl, i, hi3, hJx3⟩)
    ·rw [hnx.out] at hJ3
     have kd3 := hid (kdA.out.trans hk3)
     replace hJ3 := hid hJ3
     clear hk3 HCALL kdA x0 x1 x2 f0 f1 f2 e0 e1 e2 NX lg
     gi_wp2_with fail
     go_roundw
     case rel => exact ⟨k + 1, by omega, by simp, hJ3.out, kd3.out⟩
     case measure => simp [intOf]; omega
    ·rw [(hCk.out i hi3).2] at hJx3
     have hE := hid (HEND.out _ _ (hCk.out i hi3).1 hJx3)
     clear HCALL kdA x0 x1 x2 f0 f1 f2 e0 e1 e2 NX lg hJx3
     gi_wp2_with fail
     refine bodyPost_ret (results_tmp rfl _ _ _) rfl ?_
     exact hE.out
   ·obtain rfl : k = n := by omega
    have hE := hid (show TellP t k0 w0.heap.size J Jx W (.returned (.bool true)) wr from .inl ⟨rfl, by
     rw [HC.out]
     rw [List.take_of_length_le (by have := en.out; omega)] at hJ
     exact hJ, kd⟩)
    clear hJ kd
    gi_wp2_with fail
    refine bodyPost_ret (results_tmp rfl _ _ _) rfl ?_
    exact hE.out
 ·have hE := hid (HEND.out 0 _ HCP.out hJx2)
  clear hR hy LX QW hW0 kd1 hW1 hJx2
  gi_wp2_with fail
  refine bodyPost_ret (results_tmp rfl _ _ _) rfl ?_
  exact hE.out
theorem tell_any : ∀ t : It, TellAt t := It.induct tell_step
noncomputable def okI (t : It) : Bool := decide (countI t ≤ 5000) && rightB 16 t
def GrR (A X : World) : Prop := Below A.heap.size A X
theorem GrR.keeps (A X : World) (h : GrR A X) (b : Nat) (o : Obj) (ho : A.heap[b]? = some o) (_ : o.isCells = false) : X.heap[b]? = some o := (h.block b (Array.getElem?_eq_some_iff.1 ho).1).trans ho
theorem all_seq (n : Nat) (t : It) (l : Bool) (b : ByteArray) (a : Option Addr) (kn cap Bx : Nat) (w0 w : World) (ht : ItemAt w0 t (.agg #[.bool l, .string b, .slice a kn cap])) (hB : Below w0.heap.size w0 w)
  (hX : Has w Bx 78 #[.bool l, .string b, .slice a kn cap]) (hc : countI t ≤ 1099511627776) :
  SeqC Fence.wide n Tryz.prog 97 #[.pointer (some ⟨Bx, 0, none⟩)] (EI w0 0 t) (Kd w0.heap.size) GrR (countI t) w := by
 intro ll J Jx W hW hJA hJxA hY h0
 have hlt := hX.lt
 have LX := hX.below hW hlt
 have HC := tell_any t w0 _ ht ll 7 0 0 J Jx W (by omega) (hB.trans (hW.mono hB.size)) hJA hJxA (fun k args W1 hk hJ hE => by
  have := yieldAt_anyR (m := 7) (hY k args W1 hk (by simpa using hJ) hE)
  simpa using this) h0
 rw [show ((0 : Nat) : Int) = 0 from rfl] at HC
 have c0 := LX.cell 0 _ rfl
 have c1 := LX.cell 1 _ rfl
 have c2 := LX.cell 2 _ rfl
 replace HC := hid HC
 have hfin := hid (show ∀ e X, TellP t 0 w0.heap.size J Jx W e X → (J (countI t) X ∨ ∃ k, k < countI t ∧ Jx k X) ∧ ∃ v, e = .returned (.bool v) from fun e X h => by
  rcases h with ⟨rfl, h1, _⟩ | ⟨rfl, k, h1, h2⟩
  ·exact ⟨.inl (by simpa using h1), true, rfl⟩
  ·exact ⟨.inr ⟨k, h1, by simpa using h2⟩, false, rfl⟩)
 replace hX := hid hX
 clear hY hJA hJxA h0 ht hB hc LX
 refine callsIn_of_wp Tryz.func97 rfl trivial ?_ rfl
 simp only [Tryz.ntmps97, List.size_toArray, List.length_cons, List.length_nil, Nat.reduceAdd, Nat.reduceSub, Array.replicate_succ, Array.replicate_zero, List.push_toArray, List.append_toArray, List.nil_append, List.cons_append]
 gi_wp2_with fail
 refine ⟨fun h => absurd h (by simp [Fence.wide]), (callsIn_free free_wide HC.out).mono ?_⟩
 rintro e X hP
 obtain ⟨h1, v, rfl⟩ := hfin.out _ _ hP
 replace h1 := hid h1
 clear hP
 gi_wp2_with fail
 first | go_end0 | skip
 exact ⟨⟨_, rfl⟩, h1.out⟩
theorem either_any (t : It) (v : Value) (w : World) (ht : ItemAt w t v) : Calls Tryz.prog 94 #[v] w fun e w' => e = .returned (.bool (decide ((t.list = true → t.bytes = ⟨#[]⟩) ∧ (t.list = false → t.kids.length = 0)))) ∧ Below w.heap.size w w' := by
 obtain ⟨a, cap, rfl, hn, hs, hk⟩ := ht.open
 clear ht hk
 obtain ⟨R, hR⟩ : ∃ R, decide ((t.list = true → t.bytes = ⟨#[]⟩) ∧ (t.list = false → t.kids.length = 0)) = R := ⟨_, rfl⟩
 rw [hR]
 generalize t.list = l at *
 generalize t.bytes = b at *
 generalize t.kids.length = n at *
 have LX := Has.new w 78 #[.bool l, .string b, .slice a n cap]
 have Q := hid (newA w (.cells #[.bool l, .string b, .slice a n cap] 78))
 have k0 := LX.cell 0 _ rfl
 have k1 := LX.cell 1 _ rfl
 have k2 := LX.cell 2 _ rfl
 replace LX := hid LX
 replace hs := hid hs
 cases l with
 | true =>
  by_cases hb : b = ⟨#[]⟩
  ·have hR' := hid (show R = true by rw [← hR]; simp [hb])
   clear hR
   subst hb
   go_enter Tryz.func94, Tryz.ntmps94
   go_wp2_with fail
   go_ret
   exact ⟨by rw [hR'.out]; rfl, Q.out⟩
  ·have hR' := hid (show R = false by rw [← hR]; simp [hb])
   clear hR
   have hbl := bytes_ne hb
   have hbe : (b.toList == []) = false := by
    have e : (ByteArray.mk #[]).toList = [] := by rw [ByteArray.toList_eq]
    rw [e] at hbl
    exact hbl
   replace hb := hid hb
   go_enter Tryz.func94, Tryz.ntmps94
   go_wp2_with fail
   go_ret
   exact ⟨by rw [hR'.out]; rfl, Q.out⟩
 | false =>
  by_cases hn0 : n = 0
  ·have hR' := hid (show R = true by rw [← hR]; simp [hn0])
   clear hR
   subst hn0
   go_enter Tryz.func94, Tryz.ntmps94
   go_wp2_with fail
   go_ret
   exact ⟨by rw [hR'.out]; rfl, Q.out⟩
  ·have hR' := hid (show R = false by rw [← hR]; simp [hn0])
   clear hR
   have hnI : ((n : Int) == 0) = false := by simpa using (show ¬ n = 0 by omega)
   replace hn0 := hid hn0
   go_enter Tryz.func94, Tryz.ntmps94
   go_wp2_with fail
   go_ret
   exact ⟨by rw [hR'.out]; rfl, Q.out⟩
theorem pre_right : ∀ (d : Nat) (t : It), (∀ p ∈ preI d t, p.1 < 16 ∧ (p.2.list = true → p.2.bytes = ⟨#[]⟩) ∧ (p.2.list = false → p.2.kids.length = 0)) ↔ (d < 16 ∧ RightI (16 - d) t) := by
 intro d t
 revert d
 refine It.induct (P := fun t => ∀ d, (∀ p ∈ preI d t, p.1 < 16 ∧ (p.2.list = true → p.2.bytes = ⟨#[]⟩) ∧ (p.2.list = false → p.2.kids.length = 0)) ↔ (d < 16 ∧ RightI (16 - d) t)) ?_ t
 intro t ih d
 have hL : ∀ (ks : List It), (∀ k ∈ ks, k ∈ t.kids) → ((∀ p ∈ preL (d + 1) ks, p.1 < 16 ∧ (p.2.list = true → p.2.bytes = ⟨#[]⟩) ∧ (p.2.list = false → p.2.kids.length = 0)) ↔ ∀ k ∈ ks, d + 1 < 16 ∧ RightI (16 - (d + 1)) k) := by
  intro ks
  induction ks with
  | nil => intro _; simp [preL]
  | cons k ks ih2 =>
   intro hm
   rw [preL]
   constructor
   ·intro h x hx
    rcases List.mem_cons.1 hx with rfl | hx
    ·exact (ih x (hm x (by simp)) (d + 1)).1 (fun p hp => h p (List.mem_append_left _ hp))
    ·exact (ih2 (fun y hy => hm y (by simp [hy]))).1 (fun p hp => h p (List.mem_append_right _ hp)) x hx
   ·intro h p hp
    rcases List.mem_append.1 hp with hp | hp
    ·exact (ih k (hm k (by simp)) (d + 1)).2 (h k (by simp)) p hp
    ·exact (ih2 (fun y hy => hm y (by simp [hy]))).2 (fun y hy => h y (by simp [hy])) p hp
 rw [preI_eq]
 constructor
 ·intro h
  obtain ⟨h1, h2, h3⟩ := h (d, t) (by simp)
  obtain ⟨e, he⟩ : ∃ e, 16 - d = e + 1 := ⟨15 - d, by simp only at h1; omega⟩
  refine ⟨h1, ?_⟩
  rw [he]
  refine ⟨h2, h3, fun k hk => ?_⟩
  have := (hL t.kids (fun _ h => h)).1 (fun p hp => h p (List.mem_cons_of_mem _ hp)) k hk
  rw [show e = 16 - (d + 1) by omega]
  exact this.2
 ·rintro ⟨h1, h2⟩ p hp
  obtain ⟨e, he⟩ : ∃ e, 16 - d = e + 1 := ⟨15 - d, by omega⟩
  rw [he] at h2
  obtain ⟨h3, h4, h5⟩ := h2
  rcases List.mem_cons.1 hp with rfl | hp
  ·exact ⟨h1, h3, h4⟩
  ·refine (hL t.kids (fun _ h => h)).2 (fun k hk => ?_) p hp
   have := h5 k hk
   rw [show e = 16 - (d + 1) by omega] at this
   refine ⟨?_, this⟩
   rcases Nat.lt_or_ge (d + 1) 16 with h | h
   ·exact h
   ·rw [show 16 - (d + 1) = 0 by omega] at this
    exact this.elim
def FitI (t : It) (k : Nat) : Prop := ∀ p, (preI 0 t)[k]? = some p → p.1 < 16 ∧ (p.2.list = true → p.2.bytes = ⟨#[]⟩) ∧ (p.2.list = false → p.2.kids.length = 0)
theorem okI_of {t : It} (hc : countI t ≤ 5000) (h : ∀ k, k < countI t → FitI t k) : okI t = true := by
 unfold okI
 rw [(rightB_iff 16 t).2 ?_]
 ·simpa using hc
 ·have := (pre_right 0 t).1 (fun p hp => by
   obtain ⟨j, hj⟩ := List.getElem?_of_mem hp
   have hl := (List.getElem?_eq_some_iff.1 hj).1
   rw [preI_length] at hl
   exact h j hl p hj)
  exact this.2
theorem okI_not {t : It} {k : Nat} (h : ¬ FitI t k) : okI t = false := by
 unfold okI
 rw [rightB_false ?_]
 ·simp
 ·intro hr
  refine h (fun p hp => (pre_right 0 t).2 ⟨by omega, hr⟩ p (List.mem_of_getElem? hp))
theorem okI_many {t : It} (h : 5000 < countI t) : okI t = false := by
 unfold okI
 rw [show decide (countI t ≤ 5000) = false by simpa using h]
 rfl
def RightSt (w : World) (t : It) (Bm Br : Nat) (k : Nat) (W : World) : Prop :=
 (Has W Bm 3 #[.int .i64 (k : Int)] ∧ Has W Br 4 #[.bool false]) ∧ (Below w.heap.size w W ∧ k ≤ 5000 ∧ ∀ j, j < k → FitI t j)
theorem RightSt.later {w : World} {t : It} {Bm Br k : Nat} {A X : World} (h : RightSt w t Bm Br k A) (hb : Below A.heap.size A X) : RightSt w t Bm Br k X :=
 ⟨⟨h.1.1.later hb, h.1.2.later hb⟩, h.2.1.trans (hb.mono h.2.1.size), h.2.2.1, h.2.2.2⟩
theorem Has.ownR {A X : World} {row : Option Nat} {B : Nat} {t : TypeId} {cs : Array Value} (h : Has A B t cs) (hg : A.grownBy X row) (hr : ∀ r, row = some r → ∃ o : Obj, A.heap[r]? = some o ∧ o.isCells = false) : Has X B t cs := by
 refine (hg.block B h.lt (fun e => ?_)).trans h
 obtain ⟨o, ho, hc⟩ := hr B e.symm
 rw [show A.heap[B]? = _ from h] at ho
 cases ho
 cases hc
theorem below_ownR {w A X : World} {row : Option Nat} {n : Nat} (h : Below w.heap.size w A) (hg : A.grownBy X row) (hn : w.heap.size ≤ n) (hr : ∀ r, row = some r → n ≤ r) : Below w.heap.size w X :=
 ⟨hg.os.trans h.os, hg.tape.trans h.tape, hg.output.trans h.output, Nat.le_trans h.size hg.size, fun k hk => (hg.block k (Nat.lt_of_lt_of_le hk h.size) (fun e => by have := hr k e.symm; omega)).trans (h.block k hk)⟩
theorem RightSt.own {w : World} {t : It} {Bm Br n : Nat} (hn : w.heap.size ≤ n) : OwnFrom n (fun k W => RightSt w t Bm Br k W) := fun k A X row hs hg hr =>
 ⟨⟨hs.1.1.ownR hg (fun r e => (hr r e).2), hs.1.2.ownR hg (fun r e => (hr r e).2)⟩, below_ownR hs.2.1 hg hn (fun r e => (hr r e).1), hs.2.2.1, hs.2.2.2⟩
theorem Has.ne {A : World} {B C : Nat} {t u : TypeId} {cs ds : Array Value} (h : Has A B t cs) (k : Has A C u ds) (hne : t ≠ u) : B ≠ C := fun e => by
 subst e
 unfold Has at h k
 rw [h] at k
 injection k with k
 injection k with _ k _
 exact hne k
theorem Kd.set {n : Nat} {A : World} {B : Nat} {t : TypeId} {cs : Array Value} (h : Has A B t cs) (ht : t ≠ 78) (hn : n ≤ B) (j : Nat) (v : Value) : Kd n A (A.setCell ⟨B, j, none⟩ v) :=
 ⟨(Below.refl _ A).setCell hn v, fun b cs' m hb hA => (Below.heap_setCell A ⟨B, j, none⟩ v b (fun e => by
  simp only at e
  subst e
  rw [show A.heap[b]? = _ from h] at hA
  injection hA with hA
  injection hA with _ hA _
  exact ht hA)).trans hA⟩
theorem all_any (v0 v1 v2 : Value) (w : World) : Calls Tryz.prog 67 #[.agg #[v0, v1, v2]] w fun e w' => e = .returned (.func (.func 97) #[] #[.pointer (some ⟨w.heap.size, 0, none⟩)]) ∧ w.alloc (.cells #[v0, v1, v2] 78) = w' := by
 go_enter Tryz.func67, Tryz.ntmps67
 go_wp2_with fail
 go_ret
 exact ⟨rfl, rfl⟩
theorem right_any (t : It) (v : Value) (w : World) (ht : ItemAt w t v) (hc : countI t ≤ 1099511627776) : Calls Tryz.prog 64 #[v] w fun e w' => e = .returned (.bool (okI t)) ∧ Below w.heap.size w w' := by
 have hmx : Tryz.prog.follows .mixedOrders = true := by kernel_rfl
 obtain ⟨a, cap, rfl, hn, hs, hk⟩ := ht.open
 clear hk hs hn
 have HT := hid ht
 have HC := hid hc
 clear hc
 generalize t.list = l at *
 generalize t.bytes = b at *
 generalize t.kids.length = kn at *
 refine (callsIn_wide (n := 8)).1 ?_
 refine callsIn_of_wp_marks Tryz.func64 rfl trivial ?_ rfl
 simp only [Tryz.ntmps64, List.size_toArray, List.length_cons, List.length_nil, Nat.reduceAdd, Nat.reduceSub, Array.replicate_succ, Array.replicate_zero, List.push_toArray, List.append_toArray, List.nil_append, List.cons_append]
 have LX := ((Has.new w 78 #[.bool l, .string b, .slice a kn cap]).alloc (.cells #[.bool false] 4)).alloc (.cells #[.int .i64 0] 3)
 have LR := (Has.new (w.alloc (.cells #[.bool l, .string b, .slice a kn cap] 78)) 4 #[.bool false]).alloc (.cells #[.int .i64 0] 3)
 have LM := Has.new ((w.alloc (.cells #[.bool l, .string b, .slice a kn cap] 78)).alloc (.cells #[.bool false] 4)) 3 #[.int .i64 0]
 simp only [World.size_alloc] at LR LM
 have Q := ((newA w (.cells #[.bool l, .string b, .slice a kn cap] 78)).alloc (by simp) (.cells #[.bool false] 4)).alloc (by simp; omega) (.cells #[.int .i64 0] 3)
 have hs1 : (((w.alloc (.cells #[.bool l, .string b, .slice a kn cap] 78)).alloc (.cells #[.bool false] 4)).alloc (.cells #[.int .i64 0] 3)).heap.size = w.heap.size + 3 := by simp
 have c0 := LX.cell 0 _ rfl
 have c1 := LX.cell 1 _ rfl
 have c2 := LX.cell 2 _ rfl
 have c3 := LM.cell 0 _ rfl
 have f3 := LM.frozen 0
 have HA := hid (all_any (.bool l) (.string b) (.slice a kn cap))
 replace LX := hid LX
 replace LR := hid LR
 replace LM := hid LM
 replace Q := hid Q
 replace hs1 := hid hs1
 gi_wp2_with fail
 refine (callsIn_free free_wide (HA.out _)).mono ?_
 rintro _ W2 ⟨rfl, hW2⟩
 generalize ((w.alloc (.cells #[.bool l, .string b, .slice a kn cap] 78)).alloc (.cells #[.bool false] 4)).alloc (.cells #[.int .i64 0] 3) = W1 at *
 have LX2 := hid (show Has W2 W1.heap.size 78 #[.bool l, .string b, .slice a kn cap] by rw [← hW2]; exact Has.new _ _ _)
 have q2 : Below W1.heap.size W1 W2 := by rw [← hW2]; exact (Below.refl _ _).alloc (Nat.le_refl _) _
 replace LR := hid (LR.out.later q2)
 replace LM := hid (LM.out.later q2)
 replace Q := hid (Q.out.trans (q2.mono Q.out.size))
 have hs2 : W2.heap.size = w.heap.size + 4 := by rw [← hW2, World.size_alloc, hs1.out]
 rw [hs1.out] at LX2 ⊢
 replace hs2 := hid hs2
 clear c0 c1 c2 c3 f3 hW2 q2 LX hs1 HA
 gi_wp2_with fail
 refine wpIn_rangeFunc_C rfl (by omega) (gf := 97) (lb := #[.pointer (some ⟨w.heap.size + 3, 0, none⟩)]) rfl trivial (enters_of Tryz.func97 (by kernel_rfl) rfl)
  (all_seq _ t l b a kn cap (w.heap.size + 3) w W2 HT.out Q.out LX2.out HC.out) GrR.keeps Kd.trans (fun W l o o' hl h1 h2 _ => Kd.put W l o o' (by have := hs2.out; omega) h1 h2) (fun k args W _ hE => by obtain ⟨d', x, v', _, e, _⟩ := hE; rw [e]; rfl)
  (fun k W => RightSt w t (w.heap.size + 1 + 1) (w.heap.size + 1) k W) (fun c _ W => c = .ret ∧ okI t = false ∧ Has W (w.heap.size + 1) 4 #[.bool false] ∧ Below w.heap.size w W) (RightSt.own (by have := hs2.out; omega))
  (fun c k A X row hs hg hr => ⟨hs.1, hs.2.1, hs.2.2.1.ownR hg (fun r e => (hr r e).2), below_ownR hs.2.2.2 hg (by have := hs2.out; omega) (fun r e => (hr r e).1)⟩)
  (fun s V X hs hb => hs.later hb) (fun c s V X hs hb => ⟨hs.1, hs.2.1, hs.2.2.1.later hb, hs.2.2.2.trans (Below.mono hb hs.2.2.2.size)⟩) ⟨⟨LM.out, LR.out⟩, Q.out, by omega, fun j hj => absurd hj (by omega)⟩
  (fun k a' V => ∃ d x l1 b1 a1 n1 cap1 bx, (preI 0 t)[k]? = some (d, x) ∧ ItemAt w x (.agg #[.bool l1, .string b1, .slice a1 n1 cap1]) ∧ Has V bx 78 #[.bool l1, .string b1, .slice a1 n1 cap1] ∧
   a' = { tmps := #[.agg #[.bool l, .string b, .slice a kn cap], .pointer (some ⟨w.heap.size, 0, none⟩), .pointer (some ⟨w.heap.size + 1, 0, none⟩), .pointer (some ⟨w.heap.size + 1 + 1, 0, none⟩), .int .i64 ((d : Nat) : Int), .pointer (some ⟨bx, 0, none⟩), .agg #[.bool l, .string b, .slice a kn cap], .func (.func 97) #[] #[.pointer (some ⟨w.heap.size + 3, 0, none⟩)], .int .i64 ((d : Nat) : Int), .agg #[.bool l1, .string b1, .slice a1 n1 cap1], undef, undef, undef, undef, undef, undef, undef, undef, undef, undef, undef, undef, undef], defers := [] })
  (fun k a' _ X Y row hs hg hr => by
   obtain ⟨d, x, l1, b1, a1, n1, cap1, bx, h1, h2, h3, e⟩ := hs
   exact ⟨d, x, l1, b1, a1, n1, cap1, bx, h1, h2, h3.ownR hg (fun r e => (hr r e).2), e⟩) ?assign ?body ?done ?stop
 case assign =>
  intro ll k args W K hll hkN hst hE hK
  obtain ⟨d, x, v', h1, rfl, h3⟩ := hE
  obtain ⟨a1, cap1, rfl, _, _, _⟩ := h3.open
  have HST := hid hst
  have HK := hid hK
  have H3 := hid h3
  have H1 := hid h1
  clear hst hkN hK h3 h1
  have NX := Has.new W 78 #[.bool false, .string ⟨#[]⟩, .slice none 0 0]
  have x0 := NX.cell 0 _ rfl
  have x1 := NX.cell 1 _ rfl
  have x2 := NX.cell 2 _ rfl
  have f0 := NX.frozen 0
  have f1 := NX.frozen 1
  have f2 := NX.frozen 2
  replace NX := hid NX
  generalize x.list = l1 at *
  generalize x.bytes = b1 at *
  generalize x.kids.length = n1 at *
  gi_wp2_with fail
  have hg := newA W (.cells #[.bool l1, .string b1, .slice a1 n1 cap1] 78)
  exact HK.out _ _ ((KeepsOthers.alloc _ _).from _) (Kd.grow hg HST.out.2.1.size) (HST.out.later hg) ⟨d, x, l1, b1, a1, n1, cap1, W.heap.size, H1.out, H3.out, Has.new _ _ _, rfl⟩
 case body =>
  rintro ll k a' W hl hlo hkN hst ⟨d, x, l1, b1, a1, n1, cap1, bx, h1, h2, h3, rfl⟩
  have hne := h3.ne hst.1.1 (by decide)
  have hne2 := hst.1.2.ne hst.1.1 (by decide)
  have cM := hst.1.1.cell 0 _ rfl
  have fM := hst.1.1.frozen 0
  have cR := hst.1.2.cell 0 _ rfl
  have fR := hst.1.2.frozen 0
  have e0 := h3.cell 0 _ rfl
  have e1 := h3.cell 1 _ rfl
  have e2 := h3.cell 2 _ rfl
  have hkd := Kd.set (n := w.heap.size) hst.1.1 (by decide) (by omega) 0 (.int .i64 (((k + 1 : Nat)) : Int))
  have LM2 : Has (W.setCell ⟨w.heap.size + 1 + 1, 0, none⟩ (.int .i64 (((k + 1 : Nat)) : Int))) (w.heap.size + 1 + 1) 3 #[.int .i64 (((k + 1 : Nat)) : Int)] := hst.1.1.set 0 _
  have LR2 : Has (W.setCell ⟨w.heap.size + 1 + 1, 0, none⟩ (.int .i64 (((k + 1 : Nat)) : Int))) (w.heap.size + 1) 4 #[.bool false] := hst.1.2.other hne2 _
  have Q2 := hst.2.1.setCell (p := ⟨w.heap.size + 1 + 1, 0, none⟩) (by simp; omega) (.int .i64 (((k + 1 : Nat)) : Int))
  have hk0 : k ≤ 5000 := hst.2.2.1
  have hfit := hid hst.2.2.2
  have HI2 := hid (either_any x (.agg #[.bool l1, .string b1, .slice a1 n1 cap1]) (W.setCell ⟨w.heap.size + 1 + 1, 0, none⟩ (.int .i64 (((k + 1 : Nat)) : Int))) (h2.later Q2))
  have hmany := hid (show ¬ k + 1 ≤ 5000 → okI t = false from fun h => okI_many (by omega))
  have hbad := hid (show ¬ (d < 16 ∧ (x.list = true → x.bytes = ⟨#[]⟩) ∧ (x.list = false → x.kids.length = 0)) → okI t = false from fun h => okI_not (k := k) (fun hf => h (hf _ h1)))
  have hgood := hid (show d < 16 → decide ((x.list = true → x.bytes = ⟨#[]⟩) ∧ (x.list = false → x.kids.length = 0)) = true → FitI t k from fun h h' p hp => by
   rw [h1] at hp
   injection hp with hp
   subst hp
   exact ⟨h, of_decide_eq_true h'⟩)
  have hbad1 := hid (show ¬ d < 16 → okI t = false from fun h => hbad.out (fun hh => h hh.1))
  have hbad2 := hid (show decide ((x.list = true → x.bytes = ⟨#[]⟩) ∧ (x.list = false → x.kids.length = 0)) = false → okI t = false from fun h => hbad.out (fun hh => by simp only [decide_eq_false_iff_not] at h; exact h hh.2))
  have hkk := hid (show W2.heap.size ≤ W2.heap.size ∧ w.heap.size + 1 < W2.heap.size from ⟨Nat.le_refl _, by have := hs2.out; omega⟩)
  obtain ⟨R, hR⟩ : ∃ R, decide ((x.list = true → x.bytes = ⟨#[]⟩) ∧ (x.list = false → x.kids.length = 0)) = R := ⟨_, rfl⟩
  rw [hR] at HI2 hgood hbad2
  have hcast : ((k + 1 : Nat) : Int) = (k : Int) + 1 := by omega
  rw [hcast] at hkd LM2 LR2 Q2 HI2
  have hcst := hid hcast
  have hkI : (k : Int) ≤ 5000 := by omega
  have hk0I : (0 : Int) ≤ (k : Int) := by omega
  have hdI0 : (0 : Int) ≤ (d : Int) := by omega
  have KE := hid ((KeepsOthers.setCell W ⟨w.heap.size + 1 + 1, 0, none⟩ (.int .i64 ((k : Int) + 1))).from W2.heap.size)
  replace hkd := hid hkd
  replace LM2 := hid LM2
  replace LR2 := hid LR2
  replace Q2 := hid Q2
  replace hne := hid hne
  have hneS : ¬ bx = w.heap.size + 1 + 1 := hne.out
  clear hbad h1 h2 h3 hst hR hcast hl hlo hkN
  have hstop : ∀ X : World, KeepsFrom W2.heap.size W X → Has X (w.heap.size + 1) 4 #[.bool false] → Below w.heap.size w X → okI t = false →
    roundN W2.heap.size (Kd w.heap.size) (fun k W => RightSt w t (w.heap.size + 1 + 1) (w.heap.size + 1) k W) (fun c (_ : Nat) W => c = .ret ∧ okI t = false ∧ Has W (w.heap.size + 1) 4 #[.bool false] ∧ Below w.heap.size w W) k W .ret { tmps := #[], defers := [] } (X.setCell ⟨w.heap.size + 1, 0, none⟩ (.bool false)) := fun X h1 h2 h3 h4 =>
   ⟨h1.trans ((KeepsOthers.setCell _ _ _).from _), rfl, h4, h2.set 0 _, h3.setCell (by simp) _⟩
  replace hstop := hid hstop
  by_cases hk1 : k + 1 ≤ 5000
  ·have hk1I : (k : Int) + 1 ≤ 5000 := by omega
   have hb1 : decide (5000 < (k : Int) + 1) = false := by simpa using hk1I
   by_cases hd : d < 16
   ·have hdI : (d : Int) < 16 := by omega
    have hb2 : decide (16 ≤ (d : Int)) = false := by simpa using hdI
    gi_wp2_with fail
    refine (callsIn_free (free_round ll) HI2.out).mono ?_
    rintro _ W3 ⟨rfl, q⟩
    have KE3 := hid (KE.out.trans (⟨q.size, fun k _ _ h _ => (q.block k (Array.getElem?_eq_some_iff.1 h).1).trans h⟩ : KeepsFrom W2.heap.size _ _))
    have kd3 := hid (hkd.out.trans (Kd.grow q (Q2.out.size)))
    have LM3 := hid (LM2.out.later q)
    have LR3 := hid (LR2.out.later q)
    have Q3 := hid (Q2.out.trans (q.mono Q2.out.size))
    have c3 := LR3.out.cell 0 _ rfl
    have f3 := LR3.out.frozen 0
    clear q HI2 cM fM cR fR e0 e1 e2
    cases R with
    | true =>
     have hg := hid (hgood.out hd rfl)
     gi_wp2_with fail
     refine ⟨KE3.out, kd3.out, ⟨by rw [hcst.out]; exact LM3.out, LR3.out⟩, Q3.out, hk1, fun j hj => ?_⟩
     by_cases hjk : j = k
     ·rw [hjk]; exact hg.out
     ·exact hfit.out j (by omega)
    | false =>
     have hb := hid (hbad2.out rfl)
     gi_wp2_with fail
     exact hstop.out _ KE3.out LR3.out Q3.out hb.out
   ·have hb2 : decide (16 ≤ (d : Int)) = true := decide_eq_true (by omega)
    have hb := hid (hbad1.out hd)
    have c3 := LR2.out.cell 0 _ rfl
    have f3 := LR2.out.frozen 0
    gi_wp2_with fail
    exact hstop.out _ KE.out LR2.out Q2.out hb.out
  ·have hb := hid (hmany.out hk1)
   have hb1 : decide (5000 < (k : Int) + 1) = true := decide_eq_true (by omega)
   have c3 := LR2.out.cell 0 _ rfl
   have f3 := LR2.out.frozen 0
   gi_wp2_with fail
   exact hstop.out _ KE.out LR2.out Q2.out hb.out
 case done =>
  rintro D W hD hst hK
  have hok := hid (show okI t = true from okI_of hst.2.2.1 hst.2.2.2)
  have LR2 := hst.1.2
  have Q2 := hst.2.1
  have hDR : w.heap.size + 1 ≠ D := by have := hs2.out; omega
  have c3 := LR2.cell 0 _ rfl
  have f3 := LR2.frozen 0
  have hK2 := hid (show (W.setCell ⟨w.heap.size + 1, 0, none⟩ (.bool true)).heap[D]? = some (.deferred (some [])) from (Below.heap_setCell W ⟨w.heap.size + 1, 0, none⟩ _ D (fun e => hDR e.symm)).trans hK)
  have LR3 := hid (show Has ((W.setCell ⟨w.heap.size + 1, 0, none⟩ (.bool true)).putObj D (.deferred none)) (w.heap.size + 1) 4 #[.bool true] from (World.putObj_heap_other hDR).trans (LR2.set 0 _))
  have Q3 := hid (show Below w.heap.size w ((W.setCell ⟨w.heap.size + 1, 0, none⟩ (.bool true)).putObj D (.deferred none)) from (Q2.setCell (by simp) _).trans ⟨rfl, rfl, rfl, by simp, fun k hk => World.putObj_heap_other (by have := hs2.out; omega)⟩)
  clear hst hK LR2 Q2 hDR
  gi_wp2_with fail
  refine ⟨by simp, .inl ⟨_, _, rfl, run_takeDeferred hK2.out, ?_⟩⟩
  have y0 := LR3.out.cell 0 _ rfl
  exact ⟨.bool true, by simp [results, Tryz.results64, go_sem, y0], by rw [hok.out], Q3.out⟩
 case stop =>
  rintro D c k W hD hk ⟨rfl, h1, h2, h3⟩ hK
  have hDR : w.heap.size + 1 ≠ D := by have := hs2.out; omega
  have LR3 := hid (show Has (W.putObj D (.deferred none)) (w.heap.size + 1) 4 #[.bool false] from (World.putObj_heap_other hDR).trans h2)
  have Q3 := hid (show Below w.heap.size w (W.putObj D (.deferred none)) from h3.trans ⟨rfl, rfl, rfl, by simp, fun k hk => World.putObj_heap_other (by have := hs2.out; omega)⟩)
  have hok := hid h1
  replace hK := hid hK
  clear h1 h2 h3 hDR
  gi_wp2_with fail
  refine ⟨by simp, .inl ⟨_, _, rfl, run_takeDeferred hK.out, ?_⟩⟩
  have y0 := LR3.out.cell 0 _ rfl
  exact ⟨.bool false, by simp [results, Tryz.results64, go_sem, y0], by rw [hok.out], Q3.out⟩
end
section
theorem val256_snoc : ∀ (l : List UInt8) (n : Nat) (c : UInt8), val256 n (l ++ [c]) = val256 n l * 256 + c.toNat
 | [], n, c => rfl
 | x :: r, n, c => val256_snoc r _ c
theorem val256_from : ∀ (l : List UInt8) (n : Nat), val256 n l = n * 256 ^ l.length + val256 0 l
 | [], n => by simp [val256]
 | c :: r, n => by
  rw [val256, val256_from r, val256, val256_from r (0 * 256 + c.toNat), List.length_cons, Nat.pow_succ, Nat.add_mul, Nat.mul_comm (256 ^ r.length) 256, ← Nat.mul_assoc, Nat.zero_mul, Nat.zero_add]
  omega
theorem digs_zero : digs 0 = [] := by rw [digs]; simp
theorem digs_pos {n : Nat} (h : n ≠ 0) : digs n = digs (n / 256) ++ [UInt8.ofNat (n % 256)] := by rw [digs]; simp [h]
def Bare (l : List UInt8) : Prop := ∀ c r, l = c :: r → c ≠ 0
theorem snoc_cases {α : Type} (l : List α) : l = [] ∨ ∃ r c, l = r ++ [c] := by
 rcases h : l.reverse with _ | ⟨c, r⟩
 ·exact .inl (by simpa using h)
 ·exact .inr ⟨r.reverse, c, by have := congrArg List.reverse h; simpa using this⟩
theorem val256_pos {l : List UInt8} (h : Bare l) (hl : l ≠ []) : val256 0 l ≠ 0 := by
 rcases l with _ | ⟨c, r⟩
 ·exact absurd rfl hl
 ·have hc := h c r rfl
  have hp : 0 < 256 ^ r.length := Nat.pow_pos (by decide)
  rw [val256, val256_from]
  intro h0
  have : (0 * 256 + c.toNat) * 256 ^ r.length = 0 := by omega
  rcases Nat.mul_eq_zero.1 this with h1 | h1
  ·exact hc (UInt8.toNat_inj.1 (by show c.toNat = 0; omega))
  ·omega
theorem digs_val : ∀ (k : Nat) (l : List UInt8), l.length = k → Bare l → digs (val256 0 l) = l := by
 intro k
 induction k with
 | zero => intro l hl _; rw [List.length_eq_zero_iff.1 hl]; exact digs_zero
 | succ k ih =>
  intro l hl hb
  rcases snoc_cases l with rfl | ⟨r, c, rfl⟩
  ·simp at hl
  ·have hne := val256_pos hb (by simp)
   rw [digs_pos hne, val256_snoc]
   have hc := c.toNat_lt
   rw [show (val256 0 r * 256 + c.toNat) / 256 = val256 0 r by omega, show (val256 0 r * 256 + c.toNat) % 256 = c.toNat by omega, UInt8.ofNat_toNat]
   rw [ih r (by simpa using hl) (fun x y e => hb x (y ++ [c]) (by rw [e]; rfl))]
theorem digs_length {n k : Nat} (h : n < 256 ^ k) : (digs n).length ≤ k := by
 induction k generalizing n with
 | zero =>
  have : n = 0 := by simpa using h
  subst this
  rw [digs_zero]; simp
 | succ k ih =>
  by_cases h0 : n = 0
  ·subst h0; rw [digs_zero]; simp
  ·rw [digs_pos h0]
   have := ih (n := n / 256) (by rw [Nat.pow_succ] at h; omega)
   simp
   omega
def sl (s : List UInt8) (a b : Nat) : List UInt8 := (s.drop a).take (b - a)
theorem encI_list (ks : List It) : encI (.mk true ⟨#[]⟩ ks) = headL 192 (encL ks).length ++ encL ks := by rw [encI]; simp
theorem encI_bare (b : ByteArray) (h : bareB b.data.toList = true) : encI (.mk false b []) = b.data.toList := by rw [encI]; simp [h]
theorem encI_text (b : ByteArray) (h : bareB b.data.toList = false) : encI (.mk false b []) = headL 128 b.data.toList.length ++ b.data.toList := by rw [encI]; simp [h]
end
end Go.Proofs.YtkicmbdjihjgfaaGreatDoor
