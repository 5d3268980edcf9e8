/- Keys: rises. Conditions: the keys lie in memory. -/
import Derived.Test.YtbkgipggblphlaaAcS
namespace Go.Proofs.Ytbkgipggblphlaa
open Go Go.RowKit
attribute [local go_sem] Oper.semAt_some Grows wide_fn

theorem kcmp_ge (a b : Ky) : 0 ≤ kcmp a b ↔ ¬ Kl a b := by unfold Kl; omega
set_option maxRecDepth 100000 in
set_option maxHeartbeats 4000000 in
theorem krises_any (W : World) (sv : Value) (l : List Ky) (hs : KeysAt W sv l) :
    Calls Try.prog 54 #[sv, .func (.func 9) #[] #[]] W fun e w' => e = .returned (.bool (kupB l)) ∧ Below W.heap.size W w' := by
  have hmx : Try.prog.follows .mixedOrders = true := by kernel_rfl
  obtain ⟨a, cap, rfl, hnc, hcm⟩ := hs.shape
  have HS := Lib.hid hs
  obtain ⟨n, hn⟩ : ∃ n, l.length = n := ⟨_, rfl⟩
  rw [hn] at HS hnc ⊢
  have HN := Lib.hid hn
  have hlc := Lib.hid (Nat.le_trans hnc hcm)
  clear hs hnc hcm hn
  have hfin := Lib.hid (show ∀ X v, Below W.heap.size W X → kupB l = v → (Ending.returned (.bool v) = .returned (.bool (kupB l)) ∧ Below W.heap.size W X) from fun X v hX h => ⟨by rw [h], hX⟩)
  obtain ⟨Post, hPost⟩ : ∃ Post : Ending → World → Prop, (fun (e : Ending) (w' : World) => e = .returned (.bool (kupB l)) ∧ Below W.heap.size W w') = Post := ⟨_, rfl⟩
  replace hfin := Lib.hid (show ∀ X v, Below W.heap.size W X → kupB l = v → Post (.returned (.bool v)) X by rw [← hPost]; exact hfin.out)
  rw [hPost]
  clear hPost
  go_enter Try.func54, Try.ntmps54
  go_wp2_with fail
  go_loopw [5] (fun i wr => ∃ k : Nat, 1 ≤ k ∧ (k ≤ n ∨ k = 1) ∧ i = .int .i64 (k : Int) ∧ (∀ (j : Nat) (x y : Ky), j + 1 < k → l[j]? = some x → l[j + 1]? = some y → Kl x y) ∧ Below W.heap.size W wr) (fun i _ => n - (intOf i).toNat)
  case atStart => exact ⟨1, by omega, .inr rfl, rfl, fun j x y h => absurd h (by omega), Below.refl _ _⟩
  case round =>
    obtain ⟨k, hk1, hk, rfl, hlt, hq⟩ := hrel
    have HLT := Lib.hid hlt
    have HQ := Lib.hid hq
    clear hlt hq
    by_cases hkn : k < n
    · have hknI : (k : Int) < (n : Int) := by omega
      have hk0 : (0 : Int) ≤ (k : Int) := by omega
      have hkb : (k : Int) ≤ 9223372036854775806 := by have := hlc.out; omega
      obtain ⟨m, hm⟩ : ∃ m, k - 1 = m := ⟨_, rfl⟩
      have hm1 : (k : Int) - 1 = (m : Int) := by omega
      have hm2 : (m : Int) < (n : Int) := by omega
      obtain ⟨x, hx⟩ : ∃ x, l[m]? = some x := ⟨_, List.getElem?_eq_getElem (by have := HN.out; omega)⟩
      obtain ⟨y, hy⟩ : ∃ y, l[k]? = some y := ⟨_, List.getElem?_eq_getElem (by have := HN.out; omega)⟩
      obtain ⟨b, rfl, ax⟩ := (HS.out.later HQ.out).at hx
      have ay := (HS.out.later HQ.out).in hy
      have LX := Lib.hid (show ∀ z : World, Grows wr z → (loadVar 31 (b.add (m * 25))).run Try.prog z = .ok (.agg (kyC x)) z from fun z hz => by obtain ⟨q, rfl⟩ := hz; exact (ax.later q.below).load)
      have LY := Lib.hid (show ∀ z : World, Grows wr z → (loadVar 31 (b.add (k * 25))).run Try.prog z = .ok (.agg (kyC y)) z from fun z hz => by obtain ⟨q, rfl⟩ := hz; exact (ay.later q.below).load)
      have K3 := Lib.hid (fun z : Ext wr => Ext.atK (korder_any z.w x y (HS.out.ok hx) (HS.out.ok hy)))
      have hcge := Lib.hid (kcmp_ge x y)
      generalize kcmp x y = c at *
      generalize kyC x = cx at *
      generalize kyC y = cy at *
      have HX := Lib.hid (And.intro hx hy)
      have HM := Lib.hid hm
      have HK := Lib.hid (And.intro hk1 hkn)
      clear hx hy hm hk1 hk hkn ax ay
      by_cases hc0 : 0 ≤ c
      · go_wp2_with fail
        refine wp_region_quietL (C := Grows wr) hmx (by kernel_rfl) (grows_refl wr) ?_
        repeat (first | (with_reducible refine wpQuiet_load rfl 31 _ rfl _ rfl _ LX.out ?_; simp only [Act.put, List.setIfInBounds_toArray, List.set_cons_succ, List.set_cons_zero]) | (with_reducible refine wpQuiet_load rfl 31 _ rfl _ rfl _ LY.out ?_; simp only [Act.put, List.setIfInBounds_toArray, List.set_cons_succ, List.set_cons_zero]) | (go_big_quiet_step (first | (with_reducible exact K3.out _))))
        refine wpQuiet_nil ?_
        rintro _ ⟨z, rfl⟩
        have hno := Lib.hid (show kupB l = false from kupB_false (fun hr => by
          have h1 := kup_at.1 hr m x y HX.out.1 (by rw [show m + 1 = k by have := HM.out; have := HK.out; omega]; exact HX.out.2)
          exact hcge.out.1 hc0 h1))
        have HE := Lib.hid (HQ.out.trans (z.below.mono HQ.out.size))
        clear LX LY K3
        go_wp2_with fail
        exact hfin.out _ _ HE.out hno.out
      · go_wp2_with fail
        refine wp_region_quietL (C := Grows wr) hmx (by kernel_rfl) (grows_refl wr) ?_
        repeat (first | (with_reducible refine wpQuiet_load rfl 31 _ rfl _ rfl _ LX.out ?_; simp only [Act.put, List.setIfInBounds_toArray, List.set_cons_succ, List.set_cons_zero]) | (with_reducible refine wpQuiet_load rfl 31 _ rfl _ rfl _ LY.out ?_; simp only [Act.put, List.setIfInBounds_toArray, List.set_cons_succ, List.set_cons_zero]) | (go_big_quiet_step (first | (with_reducible exact K3.out _))))
        refine wpQuiet_nil ?_
        rintro _ ⟨z, rfl⟩
        have HE := Lib.hid (HQ.out.trans (z.below.mono HQ.out.size))
        have hlt := Lib.hid (show Kl x y from Classical.byContradiction (fun h => by have := hcge.out.2 h; omega))
        clear LX LY K3
        go_wp2_with fail
        go_roundw
        case rel =>
          refine ⟨k + 1, by omega, .inl (by have := HK.out; omega), by simp, fun j x' y' hj h1 h2 => ?_, HE.out⟩
          by_cases hjk : j + 1 < k
          · exact HLT.out j x' y' hjk h1 h2
          · have hjk' : j = m := by have := HM.out; have := HK.out; omega
            subst hjk'
            rw [HX.out.1] at h1
            rw [show j + 1 = k by have := HM.out; have := HK.out; omega, HX.out.2] at h2
            injection h1 with h1
            injection h2 with h2
            subst h1 h2
            exact hlt.out
        case measure => have := HK.out; simp [intOf]; omega
    · have hknI : ¬ (k : Int) < (n : Int) := by omega
      have hyes := Lib.hid (show kupB l = true from (kupB_iff l).2 (kup_at.2 (fun j x y hx hy => HLT.out j x y (by
        have := (List.getElem?_eq_some_iff.1 hy).1
        have := HN.out
        omega) hx hy)))
      clear hk hkn hk1
      go_wp2_with fail
      exact hfin.out _ _ HQ.out hyes.out
end Go.Proofs.Ytbkgipggblphlaa
