/- TableChain. Conditions: the raw numbers lie in memory. -/
import Derived.Test.YtgpfekdgbblemaaTBack
namespace Go.Proofs.Ytgpfekdgbblemaa
open Go Go.RowKit
attribute [local go_sem] Oper.semAt_some Grows wide_fn eq4

theorem lk_keys (l : List Sl) (k : Nat) : lk (l.map fun x => (x.1, 0)) k = (lk l k).map (fun _ => 0) := by
  induction l with
  | nil => rfl
  | cons x r ih =>
    rw [List.map_cons, lk, lk]
    by_cases h : x.1 = k
    · rw [if_pos h, if_pos h]; rfl
    · rw [if_neg h, if_neg h]; exact ih
theorem rise_keys {l : List Sl} (h : Rise l) : Rise (l.map fun x => (x.1, 0)) := by
  unfold Rise at *
  rw [List.pairwise_map]
  exact h
theorem diff_keys {a b : List Sl} (ha : Kept a) (hb : Kept b) : (diffL a b).map (fun x => (x.1, 0)) = (diffL b a).map (fun x => ((x.1, 0) : Sl)) :=
  lk_ext (rise_keys (diffL_rise ha.1 hb.1)) (rise_keys (diffL_rise hb.1 ha.1)) (fun k => by
    rw [lk_keys, lk_keys, lk_diff ha hb, lk_diff hb ha]
    by_cases h : look a k = look b k
    · rw [if_pos h, if_pos h.symm]
    · rw [if_neg h, if_neg (fun e => h e.symm)]; rfl)
theorem diff_back_len {a b : List Sl} (ha : Kept a) (hb : Kept b) : (diffL b a).length = (diffL a b).length := by
  have := congrArg List.length (diff_keys ha hb)
  rw [List.length_map, List.length_map] at this
  exact this.symm
theorem diff_back_at {a b : List Sl} (ha : Kept a) (hb : Kept b) {j : Nat} {x y : Sl} (hx : (diffL a b)[j]? = some x) (hy : (diffL b a)[j]? = some y) : x.1 = y.1 := by
  have h := congrArg (fun l => l[j]?) (diff_keys ha hb)
  simp only [List.getElem?_map, hx, hy, Option.map_some, Option.some.injEq, Prod.mk.injEq, and_true] at h
  exact h
theorem diff_val {a b : List Sl} (ha : Kept a) (hb : Kept b) {j : Nat} {x : Sl} (hx : (diffL a b)[j]? = some x) : x.2 = look b x.1 := by
  have h1 := lk_of_mem (diffL_rise ha.1 hb.1) (List.mem_of_getElem? hx)
  rw [lk_diff ha hb] at h1
  split at h1
  · cases h1
  · injection h1 with h1; exact h1.symm
theorem look_wide {l : List Sl} (hw : ∀ x ∈ l, W256 x.1 ∧ W256 x.2) (k : Nat) : W256 (look l k) := by
  unfold look
  rcases h : lk l k with _ | v
  · show W256 0; unfold W256; omega
  · exact (hw _ (lk_mem h)).2
set_option maxRecDepth 100000 in
set_option maxHeartbeats 8000000 in
theorem tchain_ret (W : World) (v0 : Value) (x0 : List (Int × Int)) (k0 : RawAt W v0 x0) (v1 : Value) (x1 : List (Int × Int)) (k1 : RawAt W v1 x1) (v2 : Value) (x2 : List (Int × Int)) (k2 : RawAt W v2 x2) :
    Calls Try.prog 7 #[v0, v1, v2] W fun e w' => e = .returned (.bool true) ∧ Below W.heap.size W w' := by
  have hmx : Try.prog.follows .mixedOrders = true := by kernel_rfl
  have HA := Lib.hid (awake_any W)
  have H0 := Lib.hid k0
  have H1 := Lib.hid k1
  have H2 := Lib.hid k2
  clear k0 k1 k2
  go_enter Try.func7, Try.ntmps7
  go_wp2_with fail
  refine HA.out.mono ?_
  rintro e w1 ⟨rfl, hq⟩
  have Q := Lib.hid hq
  clear hq HA
  have hc := slots_raw w1 v0 x0 (H0.out.later Q.out) false
  go_wp2_with fail
  refine hc.mono ?_
  clear hc
  rintro e w2 ⟨sv, lA, rfl, hrow, hr, hw, hl, hz, hq⟩
  have hsl := hrow.slots hw
  obtain ⟨aA, cA, rfl, _⟩ := hsl.shape
  have KA := Lib.hid (show (lA.length ≤ 20 ∧ Kept lA) ∧ (∀ x ∈ lA, W256 x.1 ∧ W256 x.2) from ⟨⟨hl, hr, hz rfl⟩, hw⟩)
  have YA := Lib.hid (show rightB' lA = true from (rightB_iff' lA).2 ⟨by have := KA.out.1.1; omega, KA.out.1.2⟩)
  have Q' := Lib.hid (Q.out.trans (hq.mono Q.out.size))
  clear Q
  have Q := Q'
  clear Q'
  have RA := Lib.hid hsl
  clear hsl hrow hr hw hl hz hq
  have hc := slots_raw w2 v1 x1 (H1.out.later Q.out) false
  go_wp2_with fail
  refine hc.mono ?_
  clear hc
  rintro e w3 ⟨sv, lB, rfl, hrow, hr, hw, hl, hz, hq⟩
  have hsl := hrow.slots hw
  obtain ⟨aB, cB, rfl, _⟩ := hsl.shape
  have KB := Lib.hid (show (lB.length ≤ 20 ∧ Kept lB) ∧ (∀ x ∈ lB, W256 x.1 ∧ W256 x.2) from ⟨⟨hl, hr, hz rfl⟩, hw⟩)
  have YB := Lib.hid (show rightB' lB = true from (rightB_iff' lB).2 ⟨by have := KB.out.1.1; omega, KB.out.1.2⟩)
  have Q' := Lib.hid (Q.out.trans (hq.mono Q.out.size))
  clear Q
  have Q := Q'
  clear Q'
  have RA' := Lib.hid (RA.out.later hq)
  clear RA
  have RA := RA'
  clear RA'
  have RB := Lib.hid hsl
  clear hsl hrow hr hw hl hz hq
  have hc := slots_raw w3 v2 x2 (H2.out.later Q.out) false
  go_wp2_with fail
  refine hc.mono ?_
  clear hc
  rintro e w4 ⟨sv, lC, rfl, hrow, hr, hw, hl, hz, hq⟩
  have hsl := hrow.slots hw
  obtain ⟨aC, cC, rfl, _⟩ := hsl.shape
  have KC := Lib.hid (show (lC.length ≤ 20 ∧ Kept lC) ∧ (∀ x ∈ lC, W256 x.1 ∧ W256 x.2) from ⟨⟨hl, hr, hz rfl⟩, hw⟩)
  have YC := Lib.hid (show rightB' lC = true from (rightB_iff' lC).2 ⟨by have := KC.out.1.1; omega, KC.out.1.2⟩)
  have Q' := Lib.hid (Q.out.trans (hq.mono Q.out.size))
  clear Q
  have Q := Q'
  clear Q'
  have RA' := Lib.hid (RA.out.later hq)
  clear RA
  have RA := RA'
  clear RA'
  have RB' := Lib.hid (RB.out.later hq)
  clear RB
  have RB := RB'
  clear RB'
  have RC := Lib.hid hsl
  clear hsl hrow hr hw hl hz hq
  have hc := diff_any w4 (.slice aA lA.length cA) (.slice aB lB.length cB) lA lB RA.out RB.out
  rw [YA.out, YB.out, Bool.and_true] at hc
  go_wp2_with fail
  refine hc.mono ?_
  clear hc
  intro e w5 hd
  obtain ⟨sv, rfl, hrow, hq⟩ := hd.good (by have := diffL_len lA lB; have := KA.out.1.1; have := KB.out.1.1; have := KC.out.1.1; omega)
  have hsl := hrow.slots (diffL_wide lA lB KA.out.2 KB.out.2)
  obtain ⟨aD, cD, rfl, _⟩ := hsl.shape
  have Q' := Lib.hid (Q.out.trans (hq.mono Q.out.size))
  clear Q
  have Q := Q'
  clear Q'
  have RA' := Lib.hid (RA.out.later hq)
  clear RA
  have RA := RA'
  clear RA'
  have RB' := Lib.hid (RB.out.later hq)
  clear RB
  have RB := RB'
  clear RB'
  have RC' := Lib.hid (RC.out.later hq)
  clear RC
  have RC := RC'
  clear RC'
  have RD := Lib.hid hsl
  clear hsl hrow hq hd
  have hc := diff_any w5 (.slice aB lB.length cB) (.slice aC lC.length cC) lB lC RB.out RC.out
  rw [YB.out, YC.out, Bool.and_true] at hc
  go_wp2_with fail
  refine hc.mono ?_
  clear hc
  intro e w6 hd
  obtain ⟨sv, rfl, hrow, hq⟩ := hd.good (by have := diffL_len lB lC; have := KA.out.1.1; have := KB.out.1.1; have := KC.out.1.1; omega)
  have hsl := hrow.slots (diffL_wide lB lC KB.out.2 KC.out.2)
  obtain ⟨aE, cE, rfl, _⟩ := hsl.shape
  have Q' := Lib.hid (Q.out.trans (hq.mono Q.out.size))
  clear Q
  have Q := Q'
  clear Q'
  have RA' := Lib.hid (RA.out.later hq)
  clear RA
  have RA := RA'
  clear RA'
  have RB' := Lib.hid (RB.out.later hq)
  clear RB
  have RB := RB'
  clear RB'
  have RC' := Lib.hid (RC.out.later hq)
  clear RC
  have RC := RC'
  clear RC'
  have RD' := Lib.hid (RD.out.later hq)
  clear RD
  have RD := RD'
  clear RD'
  have RE := Lib.hid hsl
  clear hsl hrow hq hd
  have YD := Lib.hid (show patchB (diffL lA lB) = true from (patchB_iff _).2 ⟨by have := diffL_len lA lB; have := KA.out.1.1; have := KB.out.1.1; have := KC.out.1.1; omega, diffL_rise KA.out.1.2.1 KB.out.1.2.1⟩)
  have YE := Lib.hid (show patchB (diffL lB lC) = true from (patchB_iff _).2 ⟨by have := diffL_len lB lC; have := KA.out.1.1; have := KB.out.1.1; have := KC.out.1.1; omega, diffL_rise KB.out.1.2.1 KC.out.1.2.1⟩)
  have hc := merge_any w6 (.slice aA lA.length cA) (.slice aD (diffL lA lB).length cD) lA (diffL lA lB) RA.out RD.out
  rw [YA.out, YD.out, Bool.and_true, merge_diff KA.out.1.2 KB.out.1.2] at hc
  go_wp2_with fail
  refine hc.mono ?_
  clear hc
  intro e w7 hd
  obtain ⟨sv, rfl, hrow, hq⟩ := hd.good (by have := KB.out.1.1; omega)
  have hsl := hrow.slots (KB.out.2)
  obtain ⟨aM, cM, rfl, _⟩ := hsl.shape
  have Q' := Lib.hid (Q.out.trans (hq.mono Q.out.size))
  clear Q
  have Q := Q'
  clear Q'
  have RA' := Lib.hid (RA.out.later hq)
  clear RA
  have RA := RA'
  clear RA'
  have RB' := Lib.hid (RB.out.later hq)
  clear RB
  have RB := RB'
  clear RB'
  have RC' := Lib.hid (RC.out.later hq)
  clear RC
  have RC := RC'
  clear RC'
  have RD' := Lib.hid (RD.out.later hq)
  clear RD
  have RD := RD'
  clear RD'
  have RE' := Lib.hid (RE.out.later hq)
  clear RE
  have RE := RE'
  clear RE'
  have RM := Lib.hid hsl
  clear hsl hrow hq hd
  have hc := merge_any w7 (.slice aM lB.length cM) (.slice aE (diffL lB lC).length cE) lB (diffL lB lC) RM.out RE.out
  rw [YB.out, YE.out, Bool.and_true, merge_diff KB.out.1.2 KC.out.1.2] at hc
  go_wp2_with fail
  refine hc.mono ?_
  clear hc
  intro e w8 hd
  obtain ⟨sv, rfl, hrow, hq⟩ := hd.good (by have := KC.out.1.1; omega)
  have hsl := hrow.slots (KC.out.2)
  obtain ⟨aN, cN, rfl, _⟩ := hsl.shape
  have Q' := Lib.hid (Q.out.trans (hq.mono Q.out.size))
  clear Q
  have Q := Q'
  clear Q'
  have RA' := Lib.hid (RA.out.later hq)
  clear RA
  have RA := RA'
  clear RA'
  have RB' := Lib.hid (RB.out.later hq)
  clear RB
  have RB := RB'
  clear RB'
  have RC' := Lib.hid (RC.out.later hq)
  clear RC
  have RC := RC'
  clear RC'
  have RD' := Lib.hid (RD.out.later hq)
  clear RD
  have RD := RD'
  clear RD'
  have RE' := Lib.hid (RE.out.later hq)
  clear RE
  have RE := RE'
  clear RE'
  have RM' := Lib.hid (RM.out.later hq)
  clear RM
  have RM := RM'
  clear RM'
  have RN := Lib.hid hsl
  clear hsl hrow hq hd
  have hc := diff_any w8 (.slice aB lB.length cB) (.slice aA lA.length cA) lB lA RB.out RA.out
  rw [YB.out, YA.out, Bool.and_true] at hc
  go_wp2_with fail
  refine hc.mono ?_
  clear hc
  intro e w9 hd
  obtain ⟨sv, rfl, hrow, hq⟩ := hd.good (by have := diffL_len lB lA; have := KA.out.1.1; have := KB.out.1.1; have := KC.out.1.1; omega)
  have hsl := hrow.slots (diffL_wide lB lA KB.out.2 KA.out.2)
  obtain ⟨aG, cG, rfl, _⟩ := hsl.shape
  have Q' := Lib.hid (Q.out.trans (hq.mono Q.out.size))
  clear Q
  have Q := Q'
  clear Q'
  have RA' := Lib.hid (RA.out.later hq)
  clear RA
  have RA := RA'
  clear RA'
  have RB' := Lib.hid (RB.out.later hq)
  clear RB
  have RB := RB'
  clear RB'
  have RC' := Lib.hid (RC.out.later hq)
  clear RC
  have RC := RC'
  clear RC'
  have RD' := Lib.hid (RD.out.later hq)
  clear RD
  have RD := RD'
  clear RD'
  have RE' := Lib.hid (RE.out.later hq)
  clear RE
  have RE := RE'
  clear RE'
  have RM' := Lib.hid (RM.out.later hq)
  clear RM
  have RM := RM'
  clear RM'
  have RN' := Lib.hid (RN.out.later hq)
  clear RN
  have RN := RN'
  clear RN'
  have RG := Lib.hid hsl
  clear hsl hrow hq hd
  have hlen := diff_back_len KA.out.1.2 KB.out.1.2
  have HLEN := Lib.hid (show (diffL lA lB).length ≤ 40 from by have := diffL_len lA lB; have := KA.out.1.1; have := KB.out.1.1; have := KC.out.1.1; omega)
  obtain ⟨m, hm⟩ : ∃ m, (diffL lA lB).length = m := ⟨_, rfl⟩
  rw [hm] at hlen HLEN RD ⊢
  rw [hlen] at RG ⊢
  have hc := same_any w9 (.slice aN lC.length cN) (.slice aC lC.length cC) lC lC RN.out RC.out
  rw [decide_eq_true rfl] at hc
  have HM := Lib.hid hm
  have HLG := Lib.hid hlen
  clear hm hlen
  go_wp2_with fail
  refine hc.mono ?_
  clear hc
  rintro e w10 ⟨rfl, hq⟩
  have Q' := Lib.hid (Q.out.trans (hq.mono Q.out.size))
  clear Q
  have Q := Q'
  clear Q'
  have RA' := Lib.hid (RA.out.later hq)
  clear RA
  have RA := RA'
  clear RA'
  have RB' := Lib.hid (RB.out.later hq)
  clear RB
  have RB := RB'
  clear RB'
  have RD' := Lib.hid (RD.out.later hq)
  clear RD
  have RD := RD'
  clear RD'
  have RG' := Lib.hid (RG.out.later hq)
  clear RG
  have RG := RG'
  clear RG'
  clear hq RC RE RM RN YD YE YA YB YC H0 H1 H2
  go_wp2_with fail
  go_loopw [21] (fun i wr => ∃ k : Nat, k ≤ m ∧ i = .int .i64 (k : Int) ∧ Below w10.heap.size w10 wr) (fun i _ => m - (intOf i).toNat)
  case atStart => exact ⟨0, by omega, rfl, Below.refl _ _⟩
  case round =>
    obtain ⟨k, hk, rfl, hq⟩ := hrel
    have HQ := Lib.hid hq
    have QW := Lib.hid (Q.out.trans (hq.mono Q.out.size))
    clear hq
    by_cases hkm : k < m
    · have hkI : (k : Int) < (m : Int) := by omega
      have hk0 : (0 : Int) ≤ (k : Int) := by omega
      have hkb : (k : Int) ≤ 9223372036854775806 := by have := HLEN.out; omega
      obtain ⟨x, hx⟩ : ∃ x, (diffL lA lB)[k]? = some x := ⟨_, List.getElem?_eq_getElem (by have := HM.out; omega)⟩
      obtain ⟨y, hy⟩ : ∃ y, (diffL lB lA)[k]? = some y := ⟨_, List.getElem?_eq_getElem (by have := HLG.out; omega)⟩
      obtain ⟨bx, rfl, _⟩ := (RD.out.later HQ.out).at hx
      obtain ⟨bY, rfl, _⟩ := (RG.out.later HQ.out).at hy
      have e1 : x.1 = y.1 := diff_back_at KA.out.1.2 KB.out.1.2 hx hy
      have e2 : x.2 = look lB x.1 := diff_val KA.out.1.2 KB.out.1.2 hx
      have e3 : y.2 = look lA x.1 := by rw [e1]; exact diff_val KB.out.1.2 KA.out.1.2 hy
      have wx := RD.out.wide hx
      have hC := fun z : Ext wr => (RD.out.later (HQ.out.trans (z.below.mono HQ.out.size))).at' hx
      have hD := fun z : Ext wr => (RG.out.later (HQ.out.trans (z.below.mono HQ.out.size))).at' hy
      rw [← e1] at hD
      have G1 := Lib.hid (fun z : Ext wr => (show Calls Try.prog 15 #[.slice aB lB.length cB, .agg #[.int .u64 (lim x.1 0), .int .u64 (lim x.1 1), .int .u64 (lim x.1 2), .int .u64 (lim x.1 3)]] z.w fun e w' => e = .returned (.agg #[.int .u64 (lim x.2 0), .int .u64 (lim x.2 1), .int .u64 (lim x.2 2), .int .u64 (lim x.2 3)]) ∧ ∃ y : Ext wr, w' = y.w from by
        have h := Ext.at (get_any z.w (.slice aB lB.length cB) lB (RB.out.later (HQ.out.trans (z.below.mono HQ.out.size))) x.1 wx.1)
        rw [← e2] at h
        exact h))
      have G2 := Lib.hid (fun z : Ext wr => (show Calls Try.prog 15 #[.slice aA lA.length cA, .agg #[.int .u64 (lim x.1 0), .int .u64 (lim x.1 1), .int .u64 (lim x.1 2), .int .u64 (lim x.1 3)]] z.w fun e w' => e = .returned (.agg #[.int .u64 (lim y.2 0), .int .u64 (lim y.2 1), .int .u64 (lim y.2 2), .int .u64 (lim y.2 3)]) ∧ ∃ y : Ext wr, w' = y.w from by
        have h := Ext.at (get_any z.w (.slice aA lA.length cA) lA (RA.out.later (HQ.out.trans (z.below.mono HQ.out.size))) x.1 wx.1)
        rw [← e3] at h
        exact h))
      have c0 := fun z : Ext wr => (hC z).1
      have d0 := fun z : Ext wr => (hD z).1
      have c1 := fun z : Ext wr => (hC z).2.1
      have d1 := fun z : Ext wr => (hD z).2.1
      have c2 := fun z : Ext wr => (hC z).2.2.1
      have d2 := fun z : Ext wr => (hD z).2.2.1
      have c3 := fun z : Ext wr => (hC z).2.2.2.1
      have d3 := fun z : Ext wr => (hD z).2.2.2.1
      have c4 := fun z : Ext wr => (hC z).2.2.2.2.1
      have d4 := fun z : Ext wr => (hD z).2.2.2.2.1
      have c5 := fun z : Ext wr => (hC z).2.2.2.2.2.1
      have d5 := fun z : Ext wr => (hD z).2.2.2.2.2.1
      have c6 := fun z : Ext wr => (hC z).2.2.2.2.2.2.1
      have d6 := fun z : Ext wr => (hD z).2.2.2.2.2.2.1
      have c7 := fun z : Ext wr => (hC z).2.2.2.2.2.2.2
      have d7 := fun z : Ext wr => (hD z).2.2.2.2.2.2.2
      have HK := Lib.hid hkm
      clear hkm hk hC hD e1 e2 e3 hx hy wx
      go_wp2_with fail
      refine wp_region_quietL (C := Grows wr) hmx (by kernel_rfl) (grows_refl wr) ?_
      repeat (go_big_quiet_step (first | (with_reducible exact G1.out _) | (with_reducible exact G2.out _)))
      refine wpQuiet_nil ?_
      rintro _ ⟨z, rfl⟩
      have HE := Lib.hid (HQ.out.trans (z.below.mono HQ.out.size))
      clear c0 c1 c2 c3 c4 c5 c6 c7 d0 d1 d2 d3 d4 d5 d6 d7 G1 G2
      go_wp2_with fail
      go_roundw
      case rel => exact ⟨k + 1, by have := HK.out; omega, by simp, HE.out⟩
      case measure => have := HK.out; simp [intOf]; omega
    · have hkI : ¬ (k : Int) < (m : Int) := by omega
      go_wp2_with fail
      go_ret
      exact ⟨rfl, QW.out⟩
end Go.Proofs.Ytgpfekdgbblemaa
