/- The document's answer for tables: Patch, Right, Get. Conditions: the slots lie in memory. -/
import Derived.Test.YtcannohmbaaceaaTabS
import Derived.Test.YtcannohmbaaceaaRefC
namespace Go.Proofs.Ytcannohmbaaceaa
open Go Go.RowKit
attribute [local go_sem] Oper.semAt_some Grows wide_fn eq4

set_option maxRecDepth 100000 in
set_option maxHeartbeats 4000000 in
theorem refPatch_any (W : World) (sv : Value) (l : List Sl) (hs : SlotsAt W sv l) :
    Calls Try.prog 12 #[sv] W fun e w' => e = .returned (.bool (patchB l)) ∧ Below W.heap.size W w' := by
  have hmx : Try.prog.follows .mixedOrders = true := by kernel_rfl
  obtain ⟨a, cap, rfl, hnc, hcm⟩ := hs.shape
  have HS := Lib.hid hs
  obtain ⟨n, hn⟩ : ∃ n, l.length = n := ⟨_, rfl⟩
  rw [hn] at HS hnc ⊢
  have HN := Lib.hid hn
  have hlc := Lib.hid (Nat.le_trans hnc hcm)
  clear hs hnc hcm hn
  have hfin := Lib.hid (show ∀ X v, Below W.heap.size W X → patchB l = v → (Ending.returned (.bool v) = .returned (.bool (patchB l)) ∧ Below W.heap.size W X) from fun X v hX h => ⟨by rw [h], hX⟩)
  obtain ⟨Post, hPost⟩ : ∃ Post : Ending → World → Prop, (fun (e : Ending) (w' : World) => e = .returned (.bool (patchB l)) ∧ Below W.heap.size W w') = Post := ⟨_, rfl⟩
  replace hfin := Lib.hid (show ∀ X v, Below W.heap.size W X → patchB l = v → Post (.returned (.bool v)) X by rw [← hPost]; exact hfin.out)
  rw [hPost]
  clear hPost
  go_enter Try.func12, Try.ntmps12
  go_wp2_with fail
  go_loopw [3] (fun i wr => ∃ k : Nat, 1 ≤ k ∧ (k ≤ n ∨ k = 1) ∧ i = .int .i64 (k : Int) ∧ (∀ (j : Nat) (x y : Sl), j + 1 < k → l[j]? = some x → l[j + 1]? = some y → x.1 < y.1) ∧ Below W.heap.size W wr) (fun i _ => n - (intOf i).toNat)
  case atStart => exact ⟨1, by omega, .inr rfl, rfl, fun j x y h => absurd h (by omega), Below.refl _ _⟩
  case round =>
    obtain ⟨k, hk1, hk, rfl, hlt, hq⟩ := hrel
    have HLT := Lib.hid hlt
    have HQ := Lib.hid hq
    clear hlt hq
    by_cases hkn : k < n
    · have hknI : (k : Int) < (n : Int) := by omega
      have hk0 : (0 : Int) ≤ (k : Int) := by omega
      have hkb : (k : Int) ≤ 9223372036854775806 := by have := hlc.out; omega
      obtain ⟨m, hm⟩ : ∃ m, k - 1 = m := ⟨_, rfl⟩
      have hm1 : (k : Int) - 1 = (m : Int) := by omega
      have hm2 : (m : Int) < (n : Int) := by omega
      obtain ⟨x, hx⟩ : ∃ x, l[m]? = some x := ⟨_, List.getElem?_eq_getElem (by have := HN.out; omega)⟩
      obtain ⟨y, hy⟩ : ∃ y, l[k]? = some y := ⟨_, List.getElem?_eq_getElem (by have := HN.out; omega)⟩
      obtain ⟨b, rfl, _⟩ := (HS.out.later HQ.out).at hx
      have hC := fun z : Ext wr => (HS.out.later (HQ.out.trans (z.below.mono HQ.out.size))).at' hx
      have hD := fun z : Ext wr => (HS.out.later (HQ.out.trans (z.below.mono HQ.out.size))).at' hy
      have K3 := refCmp_ret x.1 y.1 (HS.out.wide hx).1 (HS.out.wide hy).1
      unfold wv at K3
      have hcge := Lib.hid (wcmp_ge x.1 y.1)
      generalize wcmp x.1 y.1 = c at *
      replace K3 := Lib.hid K3
      have c0 := fun z : Ext wr => (hC z).1
      have c1 := fun z : Ext wr => (hC z).2.1
      have c2 := fun z : Ext wr => (hC z).2.2.1
      have c3 := fun z : Ext wr => (hC z).2.2.2.1
      have d0 := fun z : Ext wr => (hD z).1
      have d1 := fun z : Ext wr => (hD z).2.1
      have d2 := fun z : Ext wr => (hD z).2.2.1
      have d3 := fun z : Ext wr => (hD z).2.2.2.1
      have HX := Lib.hid (And.intro hx hy)
      have HM := Lib.hid hm
      have HK := Lib.hid (And.intro hk1 hkn)
      clear hx hy hC hD hm hk1 hk hkn
      by_cases hc0 : 0 ≤ c
      · go_wp2_with fail
        refine wp_region_quietL (C := Grows wr) hmx (by kernel_rfl) (grows_refl wr) ?_
        repeat (go_big_quiet_step (first | (with_reducible exact Ret.at K3.out _)))
        refine wpQuiet_nil ?_
        rintro _ ⟨z, rfl⟩
        have hno := Lib.hid (show patchB l = false by
          rcases hb : patchB l with _ | _
          · rfl
          · have hr := ((patchB_iff l).1 hb).2
            have h1 := rise_at.1 hr m x y HX.out.1 (by rw [show m + 1 = k by have := HM.out; have := HK.out; omega]; exact HX.out.2)
            have := hcge.out.1 hc0
            omega)
        have HE := Lib.hid (HQ.out.trans (z.below.mono HQ.out.size))
        clear c0 c1 c2 c3 d0 d1 d2 d3 K3
        go_wp2_with fail
        exact hfin.out _ _ HE.out hno.out
      · go_wp2_with fail
        refine wp_region_quietL (C := Grows wr) hmx (by kernel_rfl) (grows_refl wr) ?_
        repeat (go_big_quiet_step (first | (with_reducible exact Ret.at K3.out _)))
        refine wpQuiet_nil ?_
        rintro _ ⟨z, rfl⟩
        have HE := Lib.hid (HQ.out.trans (z.below.mono HQ.out.size))
        have hlt := Lib.hid (show x.1 < y.1 from Nat.lt_of_not_le (fun h => by have := hcge.out.2 h; omega))
        clear c0 c1 c2 c3 d0 d1 d2 d3 K3
        go_wp2_with fail
        go_roundw
        case rel =>
          refine ⟨k + 1, by omega, .inl (by have := HK.out; omega), by simp, fun j x' y' hj h1 h2 => ?_, HE.out⟩
          by_cases hjk : j + 1 < k
          · exact HLT.out j x' y' hjk h1 h2
          · have hjk' : j = m := by have := HM.out; have := HK.out; omega
            subst hjk'
            rw [HX.out.1] at h1
            rw [show j + 1 = k by have := HM.out; have := HK.out; omega, HX.out.2] at h2
            injection h1 with h1
            injection h2 with h2
            subst h1 h2
            exact hlt.out
        case measure => have := HK.out; simp [intOf]; omega
    · have hknI : ¬ (k : Int) < (n : Int) := by omega
      have hr := Lib.hid (show Rise l from rise_at.2 (fun j x y hx hy => HLT.out j x y (by
        have := (List.getElem?_eq_some_iff.1 hy).1
        have := HN.out
        omega) hx hy))
      clear hk hkn hk1
      by_cases hn0 : n ≤ 1000
      · have hnI : (n : Int) ≤ 1000 := by omega
        have hyes := Lib.hid (show patchB l = true from (patchB_iff l).2 ⟨by rw [HN.out]; exact hn0, hr.out⟩)
        clear hn0
        go_wp2_with fail
        exact hfin.out _ _ HQ.out hyes.out
      · have hnI : ¬ (n : Int) ≤ 1000 := by omega
        have hno := Lib.hid (show patchB l = false from by
          rcases hb : patchB l with _ | _
          · rfl
          · exact absurd ((patchB_iff l).1 hb).1 (by rw [HN.out]; exact hn0))
        clear hn0
        go_wp2_with fail
        exact hfin.out _ _ HQ.out hno.out

set_option maxRecDepth 100000 in
set_option maxHeartbeats 4000000 in
theorem refRight_any (W : World) (sv : Value) (l : List Sl) (hs : SlotsAt W sv l) :
    Calls Try.prog 10 #[sv] W fun e w' => e = .returned (.bool (rightB' l)) ∧ Below W.heap.size W w' := by
  have hmx : Try.prog.follows .mixedOrders = true := by kernel_rfl
  obtain ⟨a, cap, rfl, hnc, hcm⟩ := hs.shape
  have HS := Lib.hid hs
  obtain ⟨n, hn⟩ : ∃ n, l.length = n := ⟨_, rfl⟩
  rw [hn] at HS hnc ⊢
  have HN := Lib.hid hn
  have hlc := Lib.hid (Nat.le_trans hnc hcm)
  clear hs hnc hcm hn
  have hfin := Lib.hid (show ∀ X v, Below W.heap.size W X → rightB' l = v → (Ending.returned (.bool v) = .returned (.bool (rightB' l)) ∧ Below W.heap.size W X) from fun X v hX h => ⟨by rw [h], hX⟩)
  obtain ⟨Post, hPost⟩ : ∃ Post : Ending → World → Prop, (fun (e : Ending) (w' : World) => e = .returned (.bool (rightB' l)) ∧ Below W.heap.size W w') = Post := ⟨_, rfl⟩
  replace hfin := Lib.hid (show ∀ X v, Below W.heap.size W X → rightB' l = v → Post (.returned (.bool v)) X by rw [← hPost]; exact hfin.out)
  rw [hPost]
  clear hPost
  go_enter Try.func10, Try.ntmps10
  go_wp2_with fail
  go_loopw [3] (fun i wr => ∃ k : Nat, k ≤ n ∧ i = .int .i64 (k : Int) ∧ (∀ (j : Nat) (x : Sl), j < k → l[j]? = some x → x.2 ≠ 0) ∧ Below W.heap.size W wr) (fun i _ => n - (intOf i).toNat)
  case atStart => exact ⟨0, by omega, rfl, fun j x h => absurd h (by omega), Below.refl _ _⟩
  case round =>
    obtain ⟨k, hk, rfl, hlt, hq⟩ := hrel
    have HLT := Lib.hid hlt
    have HQ := Lib.hid hq
    clear hlt hq
    by_cases hkn : k < n
    · have hknI : (k : Int) < (n : Int) := by omega
      have hk0 : (0 : Int) ≤ (k : Int) := by omega
      have hkb : (k : Int) ≤ 9223372036854775806 := by have := hlc.out; omega
      obtain ⟨x, hx⟩ : ∃ x, l[k]? = some x := ⟨_, List.getElem?_eq_getElem (by have := HN.out; omega)⟩
      obtain ⟨b, rfl, _⟩ := (HS.out.later HQ.out).at hx
      have hC := (HS.out.later HQ.out).at' hx
      have c4 := (hC).2.2.2.2.1
      have c5 := (hC).2.2.2.2.2.1
      have c6 := (hC).2.2.2.2.2.2.1
      have c7 := (hC).2.2.2.2.2.2.2
      have hz := zero_w x.2 (HS.out.wide hx).2
      have HX := Lib.hid hx
      have HK := Lib.hid hkn
      clear hx hC hk hkn
      by_cases hx0 : x.2 = 0
      · rw [decide_eq_true hx0] at hz
        have hno := Lib.hid (show rightB' l = false by
          rcases hb : rightB' l with _ | _
          · rfl
          · exact absurd hx0 (((rightB_iff' l).1 hb).2.2 x (List.mem_of_getElem? HX.out)))
        clear hx0
        go_wp2_with fail
        exact hfin.out _ _ HQ.out hno.out
      · rw [decide_eq_false hx0] at hz
        have hx0' := Lib.hid hx0
        clear hx0
        go_wp2_with fail
        go_roundw
        case rel =>
          refine ⟨k + 1, by have := HK.out; omega, by simp, fun j x' hj h1 => ?_, HQ.out⟩
          rcases Nat.lt_or_ge j k with h | h
          · exact HLT.out j x' h h1
          · obtain rfl : j = k := by omega
            rw [HX.out] at h1
            injection h1 with h1
            subst h1
            exact hx0'.out
        case measure => have := HK.out; simp [intOf]; omega
    · have hknI : ¬ (k : Int) < (n : Int) := by omega
      have HC := Lib.hid (refPatch_any wr (.slice a n cap) l (HS.out.later HQ.out))
      have HE := Lib.hid (show patchB l = rightB' l from by
        rw [Bool.eq_iff_iff, patchB_iff, rightB_iff']
        refine ⟨fun h => ⟨h.1, h.2, fun x hx => ?_⟩, fun h => ⟨h.1, h.2.1⟩⟩
        obtain ⟨j, hj⟩ := List.getElem?_of_mem hx
        exact HLT.out j x (by have := (List.getElem?_eq_some_iff.1 hj).1; have := HN.out; omega) hj)
      clear hk hkn
      go_wp2_with fail
      refine HC.out.mono ?_
      rintro e w2 ⟨rfl, hb⟩
      have QE := Lib.hid (HQ.out.trans (hb.mono HQ.out.size))
      clear hb HC
      go_wp2_with fail
      exact hfin.out _ _ QE.out HE.out.symm

set_option maxRecDepth 100000 in
set_option maxHeartbeats 4000000 in
theorem refGet_any (W : World) (sv : Value) (l : List Sl) (hs : SlotsAt W sv l) (g : Nat) (hg : W256 g) :
    Calls Try.prog 14 #[sv, wv g] W fun e w' => e = .returned (wv (look l g)) ∧ Below W.heap.size W w' := by
  have hmx : Try.prog.follows .mixedOrders = true := by kernel_rfl
  obtain ⟨a, cap, rfl, hnc, hcm⟩ := hs.shape
  have HS := Lib.hid hs
  obtain ⟨n, hn⟩ : ∃ n, l.length = n := ⟨_, rfl⟩
  rw [hn] at HS hnc ⊢
  have HN := Lib.hid hn
  have hlc := Lib.hid (Nat.le_trans hnc hcm)
  clear hs hnc hcm hn
  have HG := Lib.hid hg
  clear hg
  have hfin := Lib.hid (show ∀ X v, Below W.heap.size W X → look l g = v → (Ending.returned (wv v) = .returned (wv (look l g)) ∧ Below W.heap.size W X) from fun X v hX h => ⟨by rw [h], hX⟩)
  obtain ⟨Post, hPost⟩ : ∃ Post : Ending → World → Prop, (fun (e : Ending) (w' : World) => e = .returned (wv (look l g)) ∧ Below W.heap.size W w') = Post := ⟨_, rfl⟩
  replace hfin := Lib.hid (show ∀ X v, Below W.heap.size W X → look l g = v → Post (.returned (wv v)) X by rw [← hPost]; exact hfin.out)
  rw [hPost]
  clear hPost
  have hEQ := Lib.hid (fun (x : Nat) (hx : W256 x) => eqv_w x g hx HG.out)
  unfold wv
  generalize hg0 : lim g 0 = g0 at hEQ ⊢
  generalize hg1 : lim g 1 = g1 at hEQ ⊢
  generalize hg2 : lim g 2 = g2 at hEQ ⊢
  generalize hg3 : lim g 3 = g3 at hEQ ⊢
  clear hg0 hg1 hg2 hg3
  have K0 := (Has.new W 26 #[.int .u64 g0, .int .u64 g1, .int .u64 g2, .int .u64 g3]).alloc (.cells #[.int .u64 0, .int .u64 0, .int .u64 0, .int .u64 0] 26)
  have Z0 := Has.new (W.alloc (.cells #[.int .u64 g0, .int .u64 g1, .int .u64 g2, .int .u64 g3] 26)) 26 #[.int .u64 0, .int .u64 0, .int .u64 0, .int .u64 0]
  simp only [World.size_alloc] at Z0
  have q0 := ((Below.refl W.heap.size W).alloc (Nat.le_refl _) (.cells #[.int .u64 g0, .int .u64 g1, .int .u64 g2, .int .u64 g3] 26)).alloc (by simp) (.cells #[.int .u64 0, .int .u64 0, .int .u64 0, .int .u64 0] 26)
  have hsz0 : ((W.alloc (.cells #[.int .u64 g0, .int .u64 g1, .int .u64 g2, .int .u64 g3] 26)).alloc (.cells #[.int .u64 0, .int .u64 0, .int .u64 0, .int .u64 0] 26)).heap.size = W.heap.size + 1 + 1 := by simp
  obtain ⟨V, hV⟩ : ∃ V, (W.alloc (.cells #[.int .u64 g0, .int .u64 g1, .int .u64 g2, .int .u64 g3] 26)).alloc (.cells #[.int .u64 0, .int .u64 0, .int .u64 0, .int .u64 0] 26) = V := ⟨_, rfl⟩
  rw [hV] at K0 Z0 q0 hsz0
  have KK := Lib.hid K0
  have ZZ := Lib.hid Z0
  have HSV := Lib.hid (HS.out.later q0)
  have Q := Lib.hid q0
  clear K0 Z0 q0 HS hsz0
  go_enter Try.func14, Try.ntmps14
  go_wp2_with fail
  clear hV
  go_loopw [5] (fun i wr => ∃ k : Nat, k ≤ n ∧ i = .int .i64 (k : Int) ∧ (∀ (j : Nat) (x : Sl), j < k → l[j]? = some x → x.1 ≠ g) ∧ Below V.heap.size V wr) (fun i _ => n - (intOf i).toNat)
  case atStart => exact ⟨0, by omega, rfl, fun j x h => absurd h (by omega), Below.refl _ _⟩
  case round =>
    obtain ⟨k, hk, rfl, hlt, hq⟩ := hrel
    have HLT := Lib.hid hlt
    have HQ := Lib.hid hq
    have KK1 := Lib.hid (KK.out.later hq)
    have ZZ1 := Lib.hid (ZZ.out.later hq)
    clear hlt hq
    by_cases hkn : k < n
    · have hknI : (k : Int) < (n : Int) := by omega
      have hk0 : (0 : Int) ≤ (k : Int) := by omega
      have hkb : (k : Int) ≤ 9223372036854775806 := by have := hlc.out; omega
      obtain ⟨x, hx⟩ : ∃ x, l[k]? = some x := ⟨_, List.getElem?_eq_getElem (by have := HN.out; omega)⟩
      obtain ⟨b, rfl, _⟩ := (HSV.out.later HQ.out).at hx
      have hC := fun z : Ext wr => (HSV.out.later (HQ.out.trans (z.below.mono HQ.out.size))).at' hx
      have c0 := fun z : Ext wr => (hC z).1
      have c1 := fun z : Ext wr => (hC z).2.1
      have c2 := fun z : Ext wr => (hC z).2.2.1
      have c3 := fun z : Ext wr => (hC z).2.2.2.1
      have k0 := fun z : Ext wr => (KK1.out.later z.below).cell 0 _ rfl
      have k1 := fun z : Ext wr => (KK1.out.later z.below).cell 1 _ rfl
      have k2 := fun z : Ext wr => (KK1.out.later z.below).cell 2 _ rfl
      have k3 := fun z : Ext wr => (KK1.out.later z.below).cell 3 _ rfl
      have hz := hEQ.out x.1 (HSV.out.wide hx).1
      have HX := Lib.hid hx
      have HK := Lib.hid hkn
      clear hx hC hk hkn
      by_cases hxg : x.1 = g
      · rw [decide_eq_true hxg] at hz
        have HXG := Lib.hid hxg
        clear hxg
        go_wp2_with fail
        refine wp_region_quietL (C := Grows wr) hmx (by kernel_rfl) (grows_refl wr) ?_
        repeat (go_big_quiet_step (fail))
        refine wpQuiet_nil ?_
        rintro _ ⟨z, rfl⟩
        have hq2 := HQ.out.trans (z.below.mono HQ.out.size)
        have hC := (HSV.out.later hq2).at' HX.out
        have e4 := (hC).2.2.2.2.1
        have e5 := (hC).2.2.2.2.2.1
        have e6 := (hC).2.2.2.2.2.2.1
        have e7 := (hC).2.2.2.2.2.2.2
        have ZZ2 := ZZ1.out.later z.below
        have z0 := ZZ2.cell 0 _ rfl
        have z1 := ZZ2.cell 1 _ rfl
        have z2 := ZZ2.cell 2 _ rfl
        have z3 := ZZ2.cell 3 _ rfl
        have f0 := ZZ2.frozen 0
        have f1 := ZZ2.frozen 1
        have f2 := ZZ2.frozen 2
        have f3 := ZZ2.frozen 3
        have ZZ3 := (((ZZ2.set 0 (.int .u64 (lim x.2 0))).set 1 (.int .u64 (lim x.2 1))).set 2 (.int .u64 (lim x.2 2))).set 3 (.int .u64 (lim x.2 3))
        have QZ := Lib.hid (((((Q.out.trans (hq2.mono Q.out.size)).setCell (p := ⟨W.heap.size + 1, 0, none⟩) (by simp) (.int .u64 (lim x.2 0))).setCell (p := ⟨W.heap.size + 1, 1, none⟩) (by simp) (.int .u64 (lim x.2 1))).setCell (p := ⟨W.heap.size + 1, 2, none⟩) (by simp) (.int .u64 (lim x.2 2))).setCell (p := ⟨W.heap.size + 1, 3, none⟩) (by simp) (.int .u64 (lim x.2 3)))
        have HZ := Lib.hid ZZ3
        have hlk := Lib.hid (show look l g = x.2 by
          unfold look
          rw [← HXG.out, lk_first HX.out (fun j y hj hy => by rw [HXG.out]; exact HLT.out j y hj hy)]
          rfl)
        replace ZZ2 := Lib.hid ZZ2
        clear c0 c1 c2 c3 k0 k1 k2 k3 hC ZZ3 hq2
        go_wp2_with fail
        exact bodyPost_ret (results_h (Try.results14) rfl HZ.out) rfl (hfin.out _ _ QZ.out hlk.out)
      · rw [decide_eq_false hxg] at hz
        have HXG := Lib.hid hxg
        clear hxg
        go_wp2_with fail
        refine wp_region_quietL (C := Grows wr) hmx (by kernel_rfl) (grows_refl wr) ?_
        repeat (go_big_quiet_step (fail))
        refine wpQuiet_nil ?_
        rintro _ ⟨z, rfl⟩
        have HE := Lib.hid (HQ.out.trans (z.below.mono HQ.out.size))
        clear c0 c1 c2 c3 k0 k1 k2 k3
        go_wp2_with fail
        go_roundw
        case rel =>
          refine ⟨k + 1, by have := HK.out; omega, by simp, fun j x' hj h1 => ?_, HE.out⟩
          rcases Nat.lt_or_ge j k with h | h
          · exact HLT.out j x' h h1
          · obtain rfl : j = k := by omega
            rw [HX.out] at h1
            injection h1 with h1
            subst h1
            exact HXG.out
        case measure => have := HK.out; simp [intOf]; omega
    · have hknI : ¬ (k : Int) < (n : Int) := by omega
      have z0 := ZZ1.out.cell 0 _ rfl
      have z1 := ZZ1.out.cell 1 _ rfl
      have z2 := ZZ1.out.cell 2 _ rfl
      have z3 := ZZ1.out.cell 3 _ rfl
      have f0 := ZZ1.out.frozen 0
      have f1 := ZZ1.out.frozen 1
      have f2 := ZZ1.out.frozen 2
      have f3 := ZZ1.out.frozen 3
      have ZZ3 := (((ZZ1.out.set 0 (.int .u64 0)).set 1 (.int .u64 0)).set 2 (.int .u64 0)).set 3 (.int .u64 0)
      have QZ := Lib.hid (((((Q.out.trans (HQ.out.mono Q.out.size)).setCell (p := ⟨W.heap.size + 1, 0, none⟩) (by simp) (.int .u64 0)).setCell (p := ⟨W.heap.size + 1, 1, none⟩) (by simp) (.int .u64 0)).setCell (p := ⟨W.heap.size + 1, 2, none⟩) (by simp) (.int .u64 0)).setCell (p := ⟨W.heap.size + 1, 3, none⟩) (by simp) (.int .u64 0))
      have HZ := Lib.hid ZZ3
      have hlk := Lib.hid (show look l g = 0 by
        unfold look
        rw [lk_no (fun j y hy => HLT.out j y (by have := (List.getElem?_eq_some_iff.1 hy).1; have := HN.out; omega) hy)]
        rfl)
      clear hk hkn ZZ3
      go_wp2_with fail
      exact bodyPost_ret (results_h (Try.results14) rfl HZ.out) rfl (hfin.out _ 0 QZ.out hlk.out)
end Go.Proofs.Ytcannohmbaaceaa
