/- Same of the reference. Conditions: the slots lie in memory. -/
import Derived.Test.YtcannohmbaaceaaTabQ
namespace Go.Proofs.Ytcannohmbaaceaa
open Go Go.RowKit
attribute [local go_sem] Oper.semAt_some Grows wide_fn Try.eqGuardType31
attribute [local go_sem high] eq8

theorem SlotsAt.at' {W : World} {b : Addr} {n cap : Nat} {l : List Sl} (h : SlotsAt W (.slice (some b) n cap) l) {i : Nat} {x : Sl} (hx : l[i]? = some x) : W.cell? (b.add (i * 8)) = some (.int .u64 (lim x.1 0)) ∧ W.cell? ⟨(b.add (i * 8)).block, (b.add (i * 8)).off + 1, none⟩ = some (.int .u64 (lim x.1 1)) ∧ W.cell? ⟨(b.add (i * 8)).block, (b.add (i * 8)).off + 2, none⟩ = some (.int .u64 (lim x.1 2)) ∧ W.cell? ⟨(b.add (i * 8)).block, (b.add (i * 8)).off + 3, none⟩ = some (.int .u64 (lim x.1 3)) ∧ W.cell? ⟨(b.add (i * 8)).block, (b.add (i * 8)).off + 4, none⟩ = some (.int .u64 (lim x.2 0)) ∧ W.cell? ⟨(b.add (i * 8)).block, (b.add (i * 8)).off + 5, none⟩ = some (.int .u64 (lim x.2 1)) ∧ W.cell? ⟨(b.add (i * 8)).block, (b.add (i * 8)).off + 6, none⟩ = some (.int .u64 (lim x.2 2)) ∧ W.cell? ⟨(b.add (i * 8)).block, (b.add (i * 8)).off + 7, none⟩ = some (.int .u64 (lim x.2 3)) := by
  obtain ⟨b', e, h'⟩ := h.at hx
  injection e with e
  subst e
  exact h'
theorem same_snoc {a b : List Sl} {n : Nat} (ha : a.length = n) (hb : b.length = n) (h : ∀ (j : Nat) (x y : Sl), a[j]? = some x → b[j]? = some y → x = y) : a = b := by
  refine List.ext_getElem? fun j => ?_
  by_cases hj : j < n
  · rw [List.getElem?_eq_getElem (by omega), List.getElem?_eq_getElem (by omega)]
    exact congrArg some (h j _ _ (List.getElem?_eq_getElem (by omega)) (List.getElem?_eq_getElem (by omega)))
  · rw [List.getElem?_eq_none (by omega), List.getElem?_eq_none (by omega)]
set_option maxRecDepth 100000 in
set_option maxHeartbeats 2000000 in
theorem same_any (W : World) (sa sb : Value) (la lb : List Sl) (ha : SlotsAt W sa la) (hb : SlotsAt W sb lb) :
    Calls Try.prog 17 #[sa, sb] W fun e w' => e = .returned (.bool (decide (la = lb))) ∧ Below W.heap.size W w' := by
  have hmx : Try.prog.follows .mixedOrders = true := by kernel_rfl
  obtain ⟨a, ca, rfl, ha1, ha2⟩ := ha.shape
  obtain ⟨b, cb, rfl, hb1, hb2⟩ := hb.shape
  have HA := Lib.hid ha
  have HB := Lib.hid hb
  obtain ⟨m, hm⟩ : ∃ m, la.length = m := ⟨_, rfl⟩
  obtain ⟨n, hn⟩ : ∃ n, lb.length = n := ⟨_, rfl⟩
  rw [hm] at HA ha1 ⊢
  rw [hn] at HB hb1 ⊢
  have HM := Lib.hid hm
  have HN := Lib.hid hn
  have hlc := Lib.hid (Nat.le_trans ha1 ha2)
  clear ha hb hm hn ha1 ha2 hb1 hb2
  by_cases hmn : m = n
  · subst hmn
    have hres := Lib.hid (show ∀ X, Below W.heap.size W X → (∀ (j : Nat) (x y : Sl), la[j]? = some x → lb[j]? = some y → x = y) → (Ending.returned (.bool true) = .returned (.bool (decide (la = lb))) ∧ Below W.heap.size W X) from fun X hX h => ⟨by rw [decide_eq_true (same_snoc HM.out HN.out h)], hX⟩)
    have hno := Lib.hid (show ∀ X, Below W.heap.size W X → la ≠ lb → (Ending.returned (.bool false) = .returned (.bool (decide (la = lb))) ∧ Below W.heap.size W X) from fun X hX h => ⟨by rw [decide_eq_false h], hX⟩)
    obtain ⟨Post, hPost⟩ : ∃ Post : Ending → World → Prop, (fun (e : Ending) (w' : World) => e = .returned (.bool (decide (la = lb))) ∧ Below W.heap.size W w') = Post := ⟨_, rfl⟩
    replace hres := Lib.hid (show ∀ X, Below W.heap.size W X → (∀ (j : Nat) (x y : Sl), la[j]? = some x → lb[j]? = some y → x = y) → Post (.returned (.bool true)) X by rw [← hPost]; exact hres.out)
    replace hno := Lib.hid (show ∀ X, Below W.heap.size W X → la ≠ lb → Post (.returned (.bool false)) X by rw [← hPost]; exact hno.out)
    rw [hPost]
    clear hPost
    go_enter Try.func17, Try.ntmps17
    go_wp2_with fail
    go_loopw [5] (fun i wr => ∃ k : Nat, k ≤ m ∧ i = .int .i64 (k : Int) ∧ (∀ (j : Nat) (x y : Sl), j < k → la[j]? = some x → lb[j]? = some y → x = y) ∧ Below W.heap.size W wr) (fun i _ => m - (intOf i).toNat)
    case atStart => exact ⟨0, by omega, rfl, fun j x y h => absurd h (by omega), Below.refl _ _⟩
    case round =>
      obtain ⟨k, hk, rfl, hlt, hq⟩ := hrel
      have HLT := Lib.hid hlt
      have HQ := Lib.hid hq
      clear hlt hq
      by_cases hkn : k < m
      · have hknI : (k : Int) < (m : Int) := by omega
        have hk0 : (0 : Int) ≤ (k : Int) := by omega
        have hkb : (k : Int) ≤ 9223372036854775806 := by have := hlc.out; omega
        obtain ⟨x, hx⟩ : ∃ x, la[k]? = some x := ⟨_, List.getElem?_eq_getElem (by have := HM.out; omega)⟩
        obtain ⟨y, hy⟩ : ∃ y, lb[k]? = some y := ⟨_, List.getElem?_eq_getElem (by have := HN.out; omega)⟩
        obtain ⟨ba, rfl, _⟩ := (HA.out.later HQ.out).at hx
        obtain ⟨bb, rfl, _⟩ := (HB.out.later HQ.out).at hy
        have hC := fun z : Ext wr => (HA.out.later (HQ.out.trans (z.below.mono HQ.out.size))).at' hx
        have hD := fun z : Ext wr => (HB.out.later (HQ.out.trans (z.below.mono HQ.out.size))).at' hy
        have wx := HA.out.wide hx
        have wy := HB.out.wide hy
        have hE := eq_slot x y wx wy
        have c0 := fun z : Ext wr => (hC z).1
        have c1 := fun z : Ext wr => (hC z).2.1
        have c2 := fun z : Ext wr => (hC z).2.2.1
        have c3 := fun z : Ext wr => (hC z).2.2.2.1
        have c4 := fun z : Ext wr => (hC z).2.2.2.2.1
        have c5 := fun z : Ext wr => (hC z).2.2.2.2.2.1
        have c6 := fun z : Ext wr => (hC z).2.2.2.2.2.2.1
        have c7 := fun z : Ext wr => (hC z).2.2.2.2.2.2.2
        have d0 := fun z : Ext wr => (hD z).1
        have d1 := fun z : Ext wr => (hD z).2.1
        have d2 := fun z : Ext wr => (hD z).2.2.1
        have d3 := fun z : Ext wr => (hD z).2.2.2.1
        have d4 := fun z : Ext wr => (hD z).2.2.2.2.1
        have d5 := fun z : Ext wr => (hD z).2.2.2.2.2.1
        have d6 := fun z : Ext wr => (hD z).2.2.2.2.2.2.1
        have d7 := fun z : Ext wr => (hD z).2.2.2.2.2.2.2
        have HK := Lib.hid hkn
        have HX := Lib.hid (And.intro hx hy)
        clear hkn hx hy wx wy hk hC hD
        by_cases hxy : x = y
        · rw [decide_eq_true hxy] at hE
          have HXY := Lib.hid hxy
          clear hxy
          generalize lim x.1 0 = x0 at *
          generalize lim x.1 1 = x1 at *
          generalize lim x.1 2 = x2 at *
          generalize lim x.1 3 = x3 at *
          generalize lim x.2 0 = x4 at *
          generalize lim x.2 1 = x5 at *
          generalize lim x.2 2 = x6 at *
          generalize lim x.2 3 = x7 at *
          generalize lim y.1 0 = y0 at *
          generalize lim y.1 1 = y1 at *
          generalize lim y.1 2 = y2 at *
          generalize lim y.1 3 = y3 at *
          generalize lim y.2 0 = y4 at *
          generalize lim y.2 1 = y5 at *
          generalize lim y.2 2 = y6 at *
          generalize lim y.2 3 = y7 at *
          go_wp2_with fail
          refine wp_region_quietL (C := Grows wr) hmx (by kernel_rfl) (grows_refl wr) ?_
          repeat (go_big_quiet_step (fail))
          refine wpQuiet_nil ?_
          rintro _ ⟨z, rfl⟩
          have HE := Lib.hid (HQ.out.trans (z.below.mono HQ.out.size))
          clear c0 c1 c2 c3 c4 c5 c6 c7 d0 d1 d2 d3 d4 d5 d6 d7
          go_wp2_with fail
          go_roundw
          case rel => exact ⟨k + 1, by have := HK.out; omega, by simp, fun j x' y' hj hx hy => by
            by_cases hjk : j < k
            · exact HLT.out j x' y' hjk hx hy
            · obtain rfl : j = k := by omega
              rw [HX.out.1] at hx
              rw [HX.out.2] at hy
              injection hx with hx
              injection hy with hy
              subst hx hy
              exact HXY.out, HE.out⟩
          case measure => have := HK.out; simp [intOf]; omega
        · rw [decide_eq_false hxy] at hE
          have HXY := Lib.hid (show la ≠ lb from fun h => hxy (by
            have h1 := HX.out.1
            rw [h, HX.out.2] at h1
            injection h1 with h1
            exact h1.symm))
          clear hxy
          generalize lim x.1 0 = x0 at *
          generalize lim x.1 1 = x1 at *
          generalize lim x.1 2 = x2 at *
          generalize lim x.1 3 = x3 at *
          generalize lim x.2 0 = x4 at *
          generalize lim x.2 1 = x5 at *
          generalize lim x.2 2 = x6 at *
          generalize lim x.2 3 = x7 at *
          generalize lim y.1 0 = y0 at *
          generalize lim y.1 1 = y1 at *
          generalize lim y.1 2 = y2 at *
          generalize lim y.1 3 = y3 at *
          generalize lim y.2 0 = y4 at *
          generalize lim y.2 1 = y5 at *
          generalize lim y.2 2 = y6 at *
          generalize lim y.2 3 = y7 at *
          go_wp2_with fail
          refine wp_region_quietL (C := Grows wr) hmx (by kernel_rfl) (grows_refl wr) ?_
          repeat (go_big_quiet_step (fail))
          refine wpQuiet_nil ?_
          rintro _ ⟨z, rfl⟩
          have HE := Lib.hid (HQ.out.trans (z.below.mono HQ.out.size))
          clear c0 c1 c2 c3 c4 c5 c6 c7 d0 d1 d2 d3 d4 d5 d6 d7
          go_wp2_with fail
          exact hno.out _ HE.out HXY.out
      · have hknI : ¬ (k : Int) < (m : Int) := by omega
        have HR := Lib.hid (show ∀ (j : Nat) (x y : Sl), la[j]? = some x → lb[j]? = some y → x = y from fun j x y hx hy => HLT.out j x y (by
          have := (List.getElem?_eq_some_iff.1 hx).1
          have := HM.out
          omega) hx hy)
        go_wp2_with fail
        exact hres.out _ HQ.out HR.out
  · have hI : ¬ (m : Int) = (n : Int) := by omega
    have hne := Lib.hid (show la ≠ lb from fun h => hmn (by rw [← HM.out, ← HN.out, h]))
    clear hmn
    go_enter Try.func17, Try.ntmps17
    go_wp2_with fail
    go_ret
    exact ⟨by rw [decide_eq_false hne.out]; rfl, Below.refl _ _⟩
end Go.Proofs.Ytcannohmbaaceaa
