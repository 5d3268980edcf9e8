import Derived.Test.YtadfkiebblmfkaaGreatDoorS22
/- Package state: Same. Conditions: the accounts lie in memory. -/
namespace Go.Proofs.YtadfkiebblmfkaaGreatDoor
open Go Go.RowKit
attribute [local go_sem] Oper.semAt_some Grows wide_fn

noncomputable def sameS (l m : List Ac) : Bool := @decide (l = m) (Classical.propDecidable _)
theorem sameS_true {l m : List Ac} (h : l = m) : sameS l m = true := by unfold sameS; exact @decide_eq_true _ (Classical.propDecidable _) h
theorem sameS_false {l m : List Ac} (h : l ≠ m) : sameS l m = false := by unfold sameS; exact @decide_eq_false _ (Classical.propDecidable _) h
theorem list_same {α : Type} {a b : List α} {n : Nat} (ha : a.length = n) (hb : b.length = n) (h : ∀ (j : Nat) (x y : α), a[j]? = some x → b[j]? = some y → x = y) : a = b := by
  refine List.ext_getElem? fun j => ?_
  by_cases hj : j < n
  · rw [List.getElem?_eq_getElem (by omega), List.getElem?_eq_getElem (by omega)]
    exact congrArg some (h j _ _ (List.getElem?_eq_getElem (by omega)) (List.getElem?_eq_getElem (by omega)))
  · rw [List.getElem?_eq_none (by omega), List.getElem?_eq_none (by omega)]
set_option maxRecDepth 100000 in
set_option maxHeartbeats 4000000 in
theorem equal_func (W : World) (sa sb : Value) (la lb : List Ac) (ha : StAt W sa la) (hb : StAt W sb lb) :
    Calls Tryz.prog 36 #[sa, sb, .func (.func 37) #[] #[]] W fun e w' => e = .returned (.bool (sameS la lb)) ∧ Below W.heap.size W w' := by
  obtain ⟨a, ca, rfl, ha1, ha2⟩ := ha.shape
  obtain ⟨b, cb, rfl, hb1, hb2⟩ := hb.shape
  have HA := Lib.hid ha
  have HB := Lib.hid hb
  obtain ⟨m, hm⟩ : ∃ m, la.length = m := ⟨_, rfl⟩
  obtain ⟨n, hn⟩ : ∃ n, lb.length = n := ⟨_, rfl⟩
  rw [hm] at HA ha1 ⊢
  rw [hn] at HB hb1 ⊢
  have HM := Lib.hid hm
  have HN := Lib.hid hn
  have hlc := Lib.hid (Nat.le_trans ha1 ha2)
  clear ha hb hm hn ha1 ha2 hb1 hb2
  by_cases hmn : m = n
  · subst hmn
    obtain ⟨Post, hPost⟩ : ∃ Post : Ending → World → Prop, (fun (e : Ending) (w' : World) => e = .returned (.bool (sameS la lb)) ∧ Below W.heap.size W w') = Post := ⟨_, rfl⟩
    have hres := Lib.hid (show ∀ X, Below W.heap.size W X → (∀ (j : Nat) (x y : Ac), la[j]? = some x → lb[j]? = some y → x = y) → Post (.returned (.bool true)) X from fun X hX h => by
      rw [← hPost]
      exact ⟨by rw [sameS_true (list_same HM.out HN.out h)], hX⟩)
    have hno := Lib.hid (show ∀ X, Below W.heap.size W X → la ≠ lb → Post (.returned (.bool false)) X from fun X hX h => by
      rw [← hPost]
      exact ⟨by rw [sameS_false h], hX⟩)
    rw [hPost]
    clear hPost
    go_enter Tryz.func36, Tryz.ntmps36
    go_wp2_with fail
    go_loopw [17] (fun i wr => ∃ k : Nat, k ≤ m ∧ i = .int .i64 (k : Int) ∧ (∀ (j : Nat) (x y : Ac), j < k → la[j]? = some x → lb[j]? = some y → x = y) ∧ Below W.heap.size W wr) (fun i _ => m - (intOf i).toNat)
    case atStart => exact ⟨0, by omega, rfl, fun j x y h => absurd h (by omega), Below.refl _ _⟩
    case round =>
      obtain ⟨k, hk, rfl, hlt, hq⟩ := hrel
      have HLT := Lib.hid hlt
      have HQ := Lib.hid hq
      clear hlt hq
      by_cases hkn : k < m
      · have hknI : (k : Int) < (m : Int) := by omega
        have hk0 : (0 : Int) ≤ (k : Int) := by omega
        have hkb : (k : Int) ≤ 9223372036854775806 := by have := hlc.out; omega
        obtain ⟨x, hx⟩ : ∃ x, la[k]? = some x := ⟨_, List.getElem?_eq_getElem (by have := HM.out; omega)⟩
        obtain ⟨y, hy⟩ : ∃ y, lb[k]? = some y := ⟨_, List.getElem?_eq_getElem (by have := HN.out; omega)⟩
        obtain ⟨b1, sx, rfl, ax⟩ := (HA.out.later HQ.out).at hx
        obtain ⟨a1, c1, rfl, _, _⟩ := ax.slots.shape
        obtain ⟨b2, sy, rfl, ay⟩ := (HB.out.later HQ.out).at hy
        obtain ⟨a2, c2, rfl, _, _⟩ := ay.slots.shape
        have hl1 := ax.load
        obtain ⟨cx, hcx⟩ : ∃ cx, acC x (.slice a1 x.slots.length c1) = cx := ⟨_, rfl⟩
        obtain ⟨cy, hcy⟩ : ∃ cy, acC y (.slice a2 y.slots.length c2) = cy := ⟨_, rfl⟩
        have hi1 := accRow x (.slice a1 x.slots.length c1) rfl
        have hi2 := accRow y (.slice a2 y.slots.length c2) rfl
        rw [hcx] at hl1 hi1
        rw [hcy] at hi2
        have h42 := Has.new wr 31 #[.int .u8 0, .int .u8 0, .int .u8 0, .int .u8 0, .int .u8 0, .int .u8 0, .int .u8 0, .int .u8 0, .int .u8 0, .int .u8 0, .int .u8 0, .int .u8 0, .int .u8 0, .int .u8 0, .int .u8 0, .int .u8 0, .int .u8 0, .int .u8 0, .int .u8 0, .int .u8 0, .int .u64 0, .int .u64 0, .int .u64 0, .int .u64 0, .int .i64 0, .string { data := #[] }, .slice none 0 0]
        have q3 := (Below.refl wr.heap.size wr).alloc (Nat.le_refl _) (.cells #[.int .u8 0, .int .u8 0, .int .u8 0, .int .u8 0, .int .u8 0, .int .u8 0, .int .u8 0, .int .u8 0, .int .u8 0, .int .u8 0, .int .u8 0, .int .u8 0, .int .u8 0, .int .u8 0, .int .u8 0, .int .u8 0, .int .u8 0, .int .u8 0, .int .u8 0, .int .u8 0, .int .u64 0, .int .u64 0, .int .u64 0, .int .u64 0, .int .i64 0, .string { data := #[] }, .slice none 0 0] 31)
        obtain ⟨V3, hV3⟩ : ∃ V3, wr.alloc (.cells #[.int .u8 0, .int .u8 0, .int .u8 0, .int .u8 0, .int .u8 0, .int .u8 0, .int .u8 0, .int .u8 0, .int .u8 0, .int .u8 0, .int .u8 0, .int .u8 0, .int .u8 0, .int .u8 0, .int .u8 0, .int .u8 0, .int .u8 0, .int .u8 0, .int .u8 0, .int .u8 0, .int .u64 0, .int .u64 0, .int .u64 0, .int .u64 0, .int .i64 0, .string { data := #[] }, .slice none 0 0] 31) = V3 := ⟨_, rfl⟩
        rw [hV3] at h42 q3
        obtain ⟨V4, hV4⟩ : ∃ V4, V3.setRow wr.heap.size cx = V4 := ⟨_, rfl⟩
        have h4 : Has V4 wr.heap.size 31 cx := by rw [← hV4]; exact setRow_heap _ _ _ _ _ _ h42
        have q4 : Below wr.heap.size wr V4 := by rw [← hV4]; exact below_rowAc q3 (g := wr.heap.size) (Nat.le_refl _) cx
        have hl2 := (ay.later q4).load
        rw [hcy] at hl2
        have h52 := Has.new V4 31 #[.int .u8 0, .int .u8 0, .int .u8 0, .int .u8 0, .int .u8 0, .int .u8 0, .int .u8 0, .int .u8 0, .int .u8 0, .int .u8 0, .int .u8 0, .int .u8 0, .int .u8 0, .int .u8 0, .int .u8 0, .int .u8 0, .int .u8 0, .int .u8 0, .int .u8 0, .int .u8 0, .int .u64 0, .int .u64 0, .int .u64 0, .int .u64 0, .int .i64 0, .string { data := #[] }, .slice none 0 0]
        have q5 := (Below.refl V4.heap.size V4).alloc (Nat.le_refl _) (.cells #[.int .u8 0, .int .u8 0, .int .u8 0, .int .u8 0, .int .u8 0, .int .u8 0, .int .u8 0, .int .u8 0, .int .u8 0, .int .u8 0, .int .u8 0, .int .u8 0, .int .u8 0, .int .u8 0, .int .u8 0, .int .u8 0, .int .u8 0, .int .u8 0, .int .u8 0, .int .u8 0, .int .u64 0, .int .u64 0, .int .u64 0, .int .u64 0, .int .i64 0, .string { data := #[] }, .slice none 0 0] 31)
        obtain ⟨V5, hV5⟩ : ∃ V5, V4.alloc (.cells #[.int .u8 0, .int .u8 0, .int .u8 0, .int .u8 0, .int .u8 0, .int .u8 0, .int .u8 0, .int .u8 0, .int .u8 0, .int .u8 0, .int .u8 0, .int .u8 0, .int .u8 0, .int .u8 0, .int .u8 0, .int .u8 0, .int .u8 0, .int .u8 0, .int .u8 0, .int .u8 0, .int .u64 0, .int .u64 0, .int .u64 0, .int .u64 0, .int .i64 0, .string { data := #[] }, .slice none 0 0] 31) = V5 := ⟨_, rfl⟩
        rw [hV5] at h52 q5
        obtain ⟨V6, hV6⟩ : ∃ V6, V5.setRow V4.heap.size cy = V6 := ⟨_, rfl⟩
        have h6 : Has V6 V4.heap.size 31 cy := by rw [← hV6]; exact setRow_heap _ _ _ _ _ _ h52
        have q6 : Below V4.heap.size V4 V6 := by rw [← hV6]; exact below_rowAc q5 (g := V4.heap.size) (Nat.le_refl _) cy
        have hl5 := (show Has V6 wr.heap.size 31 (acC x (.slice a1 x.slots.length c1)) by rw [hcx]; exact h4.later q6).accLoad
        have hl6 := (show Has V6 V4.heap.size 31 (acC y (.slice a2 y.slots.length c2)) by rw [hcy]; exact h6).accLoad
        rw [hcx] at hl5
        rw [hcy] at hl6
        have qr6 := q4.trans (q6.mono q4.size)
        have KA := Lib.hid (alike_any V6 x y _ _ (HA.out.ok hx) (HB.out.ok hy) (ax.slots.later qr6) (ay.slots.later qr6))
        rw [hcx, hcy] at KA
        have Q6 := Lib.hid (HQ.out.trans (qr6.mono HQ.out.size))
        have HX := Lib.hid (And.intro hx (And.intro hy hkn))
        clear hx hy hkn ax ay hcx hcy q3 q4 q5 q6 qr6 h4 h6 hk
        go_wp2_with (first | (refine wpList_load_known rfl _ (.tmp 20) rfl _ rfl _ hl1 ?_) | (refine wpList_load_known rfl _ (.tmp 24) rfl _ rfl _ hl2 ?_) | (refine wpList_load_known rfl _ (.tmp 8) rfl _ rfl _ hl5 ?_) | (refine wpList_load_known rfl _ (.tmp 9) rfl _ rfl _ hl6 ?_) | (refine wpList_store_row rfl _ (.tmp 8) (.tmp 21) rfl _ _ rfl rfl _ _ h42 hi1.1 hi1.2.1 hi1.2.2 ?_; rw [hV4]) | (refine wpList_store_row rfl _ (.tmp 9) (.tmp 25) rfl _ _ rfl rfl _ _ h52 hi2.1 hi2.2.1 hi2.2.2 ?_; rw [hV6]))
        refine KA.out.mono ?_
        rintro _ w7 ⟨rfl, q7⟩
        have Q7 := Lib.hid (Q6.out.trans (q7.mono Q6.out.size))
        clear q7 KA hl1 hl2 hl5 hl6 h42 h52 hi1 hi2 hV3 hV4 hV5 hV6
        by_cases hxy : x = y
        · have HXY := Lib.hid hxy
          rw [sameA_true hxy]
          clear hxy
          go_wp2_with fail
          go_roundw
          case rel => exact ⟨k + 1, by have := HX.out.2.2; omega, by simp, fun j x' y' hj hx hy => by
            by_cases hjk : j < k
            · exact HLT.out j x' y' hjk hx hy
            · obtain rfl : j = k := by omega
              rw [HX.out.1] at hx
              rw [HX.out.2.1] at hy
              injection hx with hx
              injection hy with hy
              rw [← hx, ← hy]
              exact HXY.out, Q7.out⟩
          case measure => have := HX.out.2.2; simp [intOf]; omega
        · rw [sameA_false hxy]
          have HXY := Lib.hid (show la ≠ lb from fun h => hxy (by
            have h1 := HX.out.1
            rw [h, HX.out.2.1] at h1
            injection h1 with h1
            exact h1.symm))
          clear hxy
          go_wp2_with fail
          exact hno.out _ Q7.out HXY.out
      · have hknI : ¬ (k : Int) < (m : Int) := by omega
        have HR := Lib.hid (show ∀ (j : Nat) (x y : Ac), la[j]? = some x → lb[j]? = some y → x = y from fun j x y hx hy => HLT.out j x y (by
          have := (List.getElem?_eq_some_iff.1 hx).1
          have := HM.out
          omega) hx hy)
        go_wp2_with fail
        exact hres.out _ HQ.out HR.out
  · have hI : ¬ (m : Int) = (n : Int) := by omega
    have hne := Lib.hid (show la ≠ lb from fun h => hmn (by rw [← HM.out, ← HN.out, h]))
    clear hmn
    go_enter Tryz.func36, Tryz.ntmps36
    go_wp2_with fail
    go_ret
    exact ⟨by rw [sameS_false hne.out]; rfl, Below.refl _ _⟩
set_option maxRecDepth 100000 in
set_option maxHeartbeats 1000000 in
theorem same_st (W : World) (sa sb : Value) (la lb : List Ac) (ha : StAt W sa la) (hb : StAt W sb lb) :
    Calls Tryz.prog 14 #[sa, sb] W fun e w' => e = .returned (.bool (sameS la lb)) ∧ Below W.heap.size W w' := by
  have H := Lib.hid (equal_func W sa sb la lb ha hb)
  clear ha hb
  generalize sameS la lb = r at *
  go_enter Tryz.func14, Tryz.ntmps14
  go_wp2_with fail
  refine H.out.mono ?_
  rintro _ w1 ⟨rfl, q⟩
  have Q := Lib.hid q
  clear q H
  go_wp2_with fail
  go_ret
  exact ⟨rfl, Q.out⟩
end Go.Proofs.YtadfkiebblmfkaaGreatDoor
