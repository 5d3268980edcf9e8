/- TableGets. Conditions: the raw numbers lie in memory. -/
import Derived.Test.YtcannohmbaaceaaTabY
namespace Go.Proofs.Ytcannohmbaaceaa
open Go Go.RowKit Late
attribute [local go_sem] Oper.semAt_some Grows wide_fn eq4

theorem right_puts {a l : List Sl} (ha : Kept a) (hn : a.length + l.length ≤ 1000) : rightB' (putsL a l) = true :=
  (rightB_iff' _).2 ⟨Nat.le_trans (putsL_len a l) hn, putsL_kept ha l⟩
theorem putsL_wide {a l : List Sl} (ha : ∀ x ∈ a, W256 x.1 ∧ W256 x.2) (hl : ∀ x ∈ l, W256 x.1 ∧ W256 x.2) : ∀ x ∈ putsL a l, W256 x.1 ∧ W256 x.2 := by
  induction l generalizing a with
  | nil => exact ha
  | cons y r ih => exact ih (putL_wide ha (hl y (List.mem_cons_self ..))) (fun x hx => hl x (List.mem_cons_of_mem _ hx))
theorem look_merge_mem {a b : List Sl} (ha : Kept a) (hb : Rise b) {k : Nat} {x : Sl} (hx : b[k]? = some x) : look (mergeL a b) x.1 = x.2 := by
  rw [lk_merge ha hb, lk_of_mem hb (List.mem_of_getElem? hx)]
theorem look_put_self {a : List Sl} (ha : Kept a) (k v : Nat) : look (mergeL a [(k, v)]) k = v := by
  have := look_putL ha (k, v) k
  rw [if_pos rfl] at this
  exact this
theorem look_put_other {a : List Sl} (ha : Kept a) (k v : Nat) {i : Nat} {x : Sl} (hx : a[i]? = some x) (h : x.1 ≠ k) : look (mergeL a [(k, v)]) x.1 = x.2 := by
  have := look_putL ha (k, v) x.1
  rw [if_neg (fun e => h e.symm)] at this
  exact this.trans (by unfold look; rw [lk_of_mem ha.1 (List.mem_of_getElem? hx)]; rfl)
theorem puts_step (W : World) (sv : Value) (a l : List Sl) (k : Nat) (x : Sl) (hs : SlotsAt W sv (putsL a (l.take k))) (ha : Kept a) (hl : a.length + l.length ≤ 1000) (hx : l[k]? = some x) (hw : W256 x.1 ∧ W256 x.2) :
    Calls Try.prog 15 #[sv, .agg #[.int .u64 (lim x.1 0), .int .u64 (lim x.1 1), .int .u64 (lim x.1 2), .int .u64 (lim x.1 3)], .agg #[.int .u64 (lim x.2 0), .int .u64 (lim x.2 1), .int .u64 (lim x.2 2), .int .u64 (lim x.2 3)]] W fun e w' => ∃ rv, e = .returned (.tuple #[rv, .int .i64 0]) ∧ RowT w' W.heap.size rv (putsL a (l.take (k + 1))) ∧ Below W.heap.size W w' := by
  have h := put_any W sv _ hs x.1 x.2 hw.1 hw.2
  rw [show rightB' (putsL a (l.take k)) = true from right_puts ha (by have : (l.take k).length ≤ l.length := (by rw [List.length_take]; omega); omega)] at h
  rw [show mergeL (putsL a (l.take k)) [(x.1, x.2)] = putsL a (l.take (k + 1)) from putsL_take hx] at h
  exact h.mono (fun e w' hd => hd.good (Nat.le_trans (putsL_short _ _ _) hl))
set_option maxRecDepth 100000 in
set_option maxHeartbeats 8000000 in
theorem tgets_ret (W : World) (v0 : Value) (x0 : List (Int × Int)) (k0 : RawAt W v0 x0) (v1 : Value) (x1 : List (Int × Int)) (k1 : RawAt W v1 x1) (kk : Nat) (hkk : W256 kk) (vv : Nat) (hvv : W256 vv) :
    Calls Try.prog 4 #[v0, v1, wv kk, wv vv] W fun e w' => e = .returned (.bool true) ∧ Below W.heap.size W w' := by
  have hmx : Try.prog.follows .mixedOrders = true := by kernel_rfl
  have KA1 := (Has.new W 26 #[.int .u64 (lim kk 0), .int .u64 (lim kk 1), .int .u64 (lim kk 2), .int .u64 (lim kk 3)]).alloc (.cells #[.int .u64 (lim vv 0), .int .u64 (lim vv 1), .int .u64 (lim vv 2), .int .u64 (lim vv 3)] 26)
  have KA2 := Has.new (W.alloc (.cells #[.int .u64 (lim kk 0), .int .u64 (lim kk 1), .int .u64 (lim kk 2), .int .u64 (lim kk 3)] 26)) 26 #[.int .u64 (lim vv 0), .int .u64 (lim vv 1), .int .u64 (lim vv 2), .int .u64 (lim vv 3)]
  simp only [World.size_alloc] at KA2
  have Q0 := ((Below.refl W.heap.size W).alloc (Nat.le_refl _) (.cells #[.int .u64 (lim kk 0), .int .u64 (lim kk 1), .int .u64 (lim kk 2), .int .u64 (lim kk 3)] 26)).alloc (by simp) (.cells #[.int .u64 (lim vv 0), .int .u64 (lim vv 1), .int .u64 (lim vv 2), .int .u64 (lim vv 3)] 26)
  have H0 := Lib.hid (k0.later Q0)
  have H1 := Lib.hid (k1.later Q0)
  have W0 := Lib.hid (And.intro hkk hvv)
  clear k0 k1 hkk hvv
  unfold wv
  obtain ⟨w0, hV⟩ : ∃ V, (W.alloc (.cells #[.int .u64 (lim kk 0), .int .u64 (lim kk 1), .int .u64 (lim kk 2), .int .u64 (lim kk 3)] 26)).alloc (.cells #[.int .u64 (lim vv 0), .int .u64 (lim vv 1), .int .u64 (lim vv 2), .int .u64 (lim vv 3)] 26) = V := ⟨_, rfl⟩
  rw [hV] at KA1 KA2 Q0 H0 H1
  have HA := Lib.hid (awake_any w0)
  have K1 := Lib.hid KA1
  have K2 := Lib.hid KA2
  have Q := Lib.hid Q0
  clear KA1 KA2 Q0
  go_enter Try.func4, Try.ntmps4
  go_wp2_with fail
  refine HA.out.mono ?_
  clear hV
  rintro e w1 ⟨rfl, hq⟩
  have Q0 := Lib.hid hq
  have Q' := Lib.hid (Q.out.trans (hq.mono Q.out.size))
  clear Q
  have Q := Q'
  clear Q'
  have K1' := Lib.hid (K1.out.later hq)
  clear K1
  have K1 := K1'
  clear K1'
  have K2' := Lib.hid (K2.out.later hq)
  clear K2
  have K2 := K2'
  clear K2'
  clear hq HA
  have hc := slots_raw w1 v0 x0 (H0.out.later Q0.out) false
  go_wp2_with fail
  refine hc.mono ?_
  clear hc
  rintro e w2 ⟨sv, lA, rfl, hrow, hr, hw, hl, hz, hq⟩
  have hsl := hrow.slots hw
  obtain ⟨aA, cA, rfl, _⟩ := hsl.shape
  have KA := Lib.hid (show (lA.length ≤ 20 ∧ Kept lA) ∧ (∀ x ∈ lA, W256 x.1 ∧ W256 x.2) from ⟨⟨hl, hr, hz rfl⟩, hw⟩)
  have Q0' := Lib.hid (Q0.out.trans (hq.mono Q0.out.size))
  clear Q0
  have Q0 := Q0'
  clear Q0'
  have Q' := Lib.hid (Q.out.trans (hq.mono Q.out.size))
  clear Q
  have Q := Q'
  clear Q'
  have K1' := Lib.hid (K1.out.later hq)
  clear K1
  have K1 := K1'
  clear K1'
  have K2' := Lib.hid (K2.out.later hq)
  clear K2
  have K2 := K2'
  clear K2'
  have RA := Lib.hid hsl
  clear hsl hrow hr hw hl hz hq
  have hc := slots_raw w2 v1 x1 (H1.out.later Q0.out) true
  go_wp2_with fail
  refine hc.mono ?_
  clear hc
  rintro e w3 ⟨sv, lB, rfl, hrow, hr, hw, hl, hz, hq⟩
  have hsl := hrow.slots hw
  obtain ⟨aB, cB, rfl, _⟩ := hsl.shape
  have KB := Lib.hid (show (lB.length ≤ 20 ∧ Rise lB) ∧ (∀ x ∈ lB, W256 x.1 ∧ W256 x.2) from ⟨⟨hl, hr⟩, hw⟩)
  have Q0' := Lib.hid (Q0.out.trans (hq.mono Q0.out.size))
  clear Q0
  have Q0 := Q0'
  clear Q0'
  have Q' := Lib.hid (Q.out.trans (hq.mono Q.out.size))
  clear Q
  have Q := Q'
  clear Q'
  have K1' := Lib.hid (K1.out.later hq)
  clear K1
  have K1 := K1'
  clear K1'
  have K2' := Lib.hid (K2.out.later hq)
  clear K2
  have K2 := K2'
  clear K2'
  have RA' := Lib.hid (RA.out.later hq)
  clear RA
  have RA := RA'
  clear RA'
  have RB := Lib.hid hsl
  clear hsl hrow hr hw hl hz hq
  have YA := Lib.hid (show rightB' lA = true from (rightB_iff' lA).2 ⟨by have := KA.out.1.1; omega, KA.out.1.2⟩)
  have YB := Lib.hid (show patchB lB = true from (patchB_iff lB).2 ⟨by have := KB.out.1.1; omega, KB.out.1.2⟩)
  have HP := Lib.hid (show (mergeL lA [(kk, vv)]).length ≤ 21 ∧ Kept (mergeL lA [(kk, vv)]) ∧ (∀ x ∈ mergeL lA [(kk, vv)], W256 x.1 ∧ W256 x.2) from ⟨by have := putsL_len lA [(kk, vv)]; have := KA.out.1.1; exact Nat.le_trans ‹_› (by simp; omega), putL_kept KA.out.1.2.1 (kk, vv), putL_wide (x := (kk, vv)) KA.out.2 W0.out⟩)
  clear H0 H1 Q0
  have hc := put_any w3 (.slice aA lA.length cA) lA RA.out kk vv W0.out.1 W0.out.2
  rw [YA.out] at hc
  unfold wv at hc
  have a0 := K1.out.cell 0 _ rfl
  have b0 := K2.out.cell 0 _ rfl
  have a1 := K1.out.cell 1 _ rfl
  have b1 := K2.out.cell 1 _ rfl
  have a2 := K1.out.cell 2 _ rfl
  have b2 := K2.out.cell 2 _ rfl
  have a3 := K1.out.cell 3 _ rfl
  have b3 := K2.out.cell 3 _ rfl
  go_wp2_with fail
  refine hc.mono ?_
  clear hc a0 a1 a2 a3 b0 b1 b2 b3
  intro e w4 hd
  obtain ⟨sv, rfl, hrow, hq⟩ := hd.good (by have := HP.out.1; omega)
  have hsl := hrow.slots HP.out.2.2
  obtain ⟨aP, cP, rfl, _⟩ := hsl.shape
  have Q' := Lib.hid (Q.out.trans (hq.mono Q.out.size))
  clear Q
  have Q := Q'
  clear Q'
  have K1' := Lib.hid (K1.out.later hq)
  clear K1
  have K1 := K1'
  clear K1'
  have K2' := Lib.hid (K2.out.later hq)
  clear K2
  have K2 := K2'
  clear K2'
  have RA' := Lib.hid (RA.out.later hq)
  clear RA
  have RA := RA'
  clear RA'
  have RB' := Lib.hid (RB.out.later hq)
  clear RB
  have RB := RB'
  clear RB'
  have RP := Lib.hid hsl
  clear hsl hrow hq hd
  have YP := Lib.hid (show rightB' (mergeL lA [(kk, vv)]) = true from (rightB_iff' _).2 ⟨by have := HP.out.1; omega, HP.out.2.1⟩)
  have G1 := Lib.hid (fun z : Ext w4 => (show Calls Try.prog 13 #[.slice aP (mergeL lA [(kk, vv)]).length cP, .agg #[.int .u64 (lim kk 0), .int .u64 (lim kk 1), .int .u64 (lim kk 2), .int .u64 (lim kk 3)]] z.w fun e w' => e = .returned (.agg #[.int .u64 (lim vv 0), .int .u64 (lim vv 1), .int .u64 (lim vv 2), .int .u64 (lim vv 3)]) ∧ ∃ y : Ext w4, w' = y.w from by
    have h := Ext.at (get_any z.w (.slice aP (mergeL lA [(kk, vv)]).length cP) _ (RP.out.later z.below) kk W0.out.1)
    rw [look_put_self KA.out.1.2 kk vv] at h
    exact h))
  have G2 := Lib.hid (fun z : Ext w4 => (show Calls Try.prog 9 #[.slice aP (mergeL lA [(kk, vv)]).length cP] z.w fun e w' => e = .returned (.bool true) ∧ ∃ y : Ext w4, w' = y.w from by
    have h := Ext.at (right_slots z.w (.slice aP (mergeL lA [(kk, vv)]).length cP) _ (RP.out.later z.below))
    rw [YP.out] at h
    exact h))
  have b0 := fun z : Ext w4 => (K2.out.later z.below).cell 0 _ rfl
  have a0 := fun z : Ext w4 => (K1.out.later z.below).cell 0 _ rfl
  have b1 := fun z : Ext w4 => (K2.out.later z.below).cell 1 _ rfl
  have a1 := fun z : Ext w4 => (K1.out.later z.below).cell 1 _ rfl
  have b2 := fun z : Ext w4 => (K2.out.later z.below).cell 2 _ rfl
  have a2 := fun z : Ext w4 => (K1.out.later z.below).cell 2 _ rfl
  have b3 := fun z : Ext w4 => (K2.out.later z.below).cell 3 _ rfl
  have a3 := fun z : Ext w4 => (K1.out.later z.below).cell 3 _ rfl
  obtain ⟨m, hm⟩ : ∃ m, (mergeL lA [(kk, vv)]).length = m := ⟨_, rfl⟩
  rw [hm] at G1 G2 RP ⊢
  have HM := Lib.hid hm
  clear hm
  go_wp2_with fail
  refine wp_region_quietL (C := Grows w4) hmx (by kernel_rfl) (grows_refl w4) ?_
  repeat (go_big_quiet_step (first | (with_reducible exact G1.out _) | (with_reducible exact G2.out _)))
  refine wpQuiet_nil ?_
  rintro _ ⟨z, rfl⟩
  obtain ⟨wz, hwz⟩ : ∃ wz, z.w = wz := ⟨_, rfl⟩
  have hq := z.below
  rw [hwz] at hq ⊢
  clear hwz z a0 a1 a2 a3 b0 b1 b2 b3 G1 G2
  have Q' := Lib.hid (Q.out.trans (hq.mono Q.out.size))
  clear Q
  have Q := Q'
  clear Q'
  have K1' := Lib.hid (K1.out.later hq)
  clear K1
  have K1 := K1'
  clear K1'
  have K2' := Lib.hid (K2.out.later hq)
  clear K2
  have K2 := K2'
  clear K2'
  have RA' := Lib.hid (RA.out.later hq)
  clear RA
  have RA := RA'
  clear RA'
  have RB' := Lib.hid (RB.out.later hq)
  clear RB
  have RB := RB'
  clear RB'
  have RP' := Lib.hid (RP.out.later hq)
  clear RP
  have RP := RP'
  clear RP'
  clear hq
  obtain ⟨nA, hnA⟩ : ∃ m, lA.length = m := ⟨_, rfl⟩
  obtain ⟨nB, hnB⟩ : ∃ m, lB.length = m := ⟨_, rfl⟩
  rw [hnA] at RA ⊢
  rw [hnB] at RB ⊢
  have HNA := Lib.hid hnA
  have HNB := Lib.hid hnB
  have BNA := Lib.hid (show nA ≤ 20 from by rw [← hnA]; exact KA.out.1.1)
  have BNB := Lib.hid (show nB ≤ 20 from by rw [← hnB]; exact KB.out.1.1)
  clear hnA hnB
  go_wp2_with fail
  go_loopw [14] (fun i wr => ∃ k : Nat, k ≤ nA ∧ i = .int .i64 (k : Int) ∧ Below wz.heap.size wz wr) (fun i _ => nA - (intOf i).toNat)
  case atStart => exact ⟨0, by omega, rfl, Below.refl _ _⟩
  case round =>
    obtain ⟨k, hk, rfl, hq⟩ := hrel
    have HQ := Lib.hid hq
    clear hq
    by_cases hkm : k < nA
    · have hkI : (k : Int) < (nA : Int) := by omega
      have hk0 : (0 : Int) ≤ (k : Int) := by omega
      have hkb : (k : Int) ≤ 9223372036854775806 := by have := BNA.out; omega
      obtain ⟨x, hx⟩ : ∃ x, lA[k]? = some x := ⟨_, List.getElem?_eq_getElem (by have := HNA.out; omega)⟩
      obtain ⟨bx, rfl, _⟩ := (RA.out.later HQ.out).at hx
      have wx := RA.out.wide hx
      have hC := fun z : Ext wr => (RA.out.later (HQ.out.trans (z.below.mono HQ.out.size))).at' hx
      have c0 := fun z : Ext wr => (hC z).1
      have c1 := fun z : Ext wr => (hC z).2.1
      have c2 := fun z : Ext wr => (hC z).2.2.1
      have c3 := fun z : Ext wr => (hC z).2.2.2.1
      have c4 := fun z : Ext wr => (hC z).2.2.2.2.1
      have c5 := fun z : Ext wr => (hC z).2.2.2.2.2.1
      have c6 := fun z : Ext wr => (hC z).2.2.2.2.2.2.1
      have c7 := fun z : Ext wr => (hC z).2.2.2.2.2.2.2
      have b0 := fun z : Ext wr => (K1.out.later (HQ.out.trans (z.below.mono HQ.out.size))).cell 0 _ rfl
      have b1 := fun z : Ext wr => (K1.out.later (HQ.out.trans (z.below.mono HQ.out.size))).cell 1 _ rfl
      have b2 := fun z : Ext wr => (K1.out.later (HQ.out.trans (z.below.mono HQ.out.size))).cell 2 _ rfl
      have b3 := fun z : Ext wr => (K1.out.later (HQ.out.trans (z.below.mono HQ.out.size))).cell 3 _ rfl
      have heq := eqv_w x.1 kk wx.1 W0.out.1
      have G1 := Lib.hid (fun (hne : x.1 ≠ kk) (z : Ext wr) => (show Calls Try.prog 13 #[.slice aP m cP, .agg #[.int .u64 (lim x.1 0), .int .u64 (lim x.1 1), .int .u64 (lim x.1 2), .int .u64 (lim x.1 3)]] z.w fun e w' => e = .returned (.agg #[.int .u64 (lim x.2 0), .int .u64 (lim x.2 1), .int .u64 (lim x.2 2), .int .u64 (lim x.2 3)]) ∧ ∃ y : Ext wr, w' = y.w from by
        have h := Ext.at (get_any z.w (.slice aP m cP) _ (RP.out.later (HQ.out.trans (z.below.mono HQ.out.size))) x.1 wx.1)
        rw [look_put_other KA.out.1.2 kk vv hx hne] at h
        exact h))
      have HK := Lib.hid hkm
      clear hkm hk hC wx hx
      by_cases hxk : x.1 = kk
      · rw [decide_eq_true hxk] at heq
        clear hxk G1
        go_wp2_with fail
        refine wp_region_quietL (C := Grows wr) hmx (by kernel_rfl) (grows_refl wr) ?_
        repeat (go_big_quiet_step (fail))
        refine wpQuiet_nil ?_
        rintro _ ⟨z, rfl⟩
        have HE := Lib.hid (HQ.out.trans (z.below.mono HQ.out.size))
        clear c0 c1 c2 c3 c4 c5 c6 c7 b0 b1 b2 b3
        go_wp2_with fail
        go_roundw
        case rel => exact ⟨k + 1, by have := HK.out; omega, by simp, HE.out⟩
        case measure => have := HK.out; simp [intOf]; omega
      · rw [decide_eq_false hxk] at heq
        have G2 := Lib.hid (G1.out hxk)
        clear hxk G1
        go_wp2_with fail
        refine wp_region_quietL (C := Grows wr) hmx (by kernel_rfl) (grows_refl wr) ?_
        repeat (go_big_quiet_step (first | (with_reducible exact G2.out _)))
        refine wpQuiet_nil ?_
        rintro _ ⟨z, rfl⟩
        have HE := Lib.hid (HQ.out.trans (z.below.mono HQ.out.size))
        clear c0 c1 c2 c3 c4 c5 c6 c7 b0 b1 b2 b3 G2
        go_wp2_with fail
        go_roundw
        case rel => exact ⟨k + 1, by have := HK.out; omega, by simp, HE.out⟩
        case measure => have := HK.out; simp [intOf]; omega
    · have hkI : ¬ (k : Int) < (nA : Int) := by omega
      clear hk hkm
      have hq := HQ.out
      have Q' := Lib.hid (Q.out.trans (hq.mono Q.out.size))
      clear Q
      have Q := Q'
      clear Q'
      have RA' := Lib.hid (RA.out.later hq)
      clear RA
      have RA := RA'
      clear RA'
      have RB' := Lib.hid (RB.out.later hq)
      clear RB
      have RB := RB'
      clear RB'
      clear hq HQ K1 K2 RP HP YP HM
      have HMM := Lib.hid (show (mergeL lA lB).length ≤ 40 from by rw [← putsL_merge KA.out.1.2 KB.out.1.2]; have := putsL_len lA lB; have := HNA.out; have := HNB.out; have := BNA.out; have := BNB.out; omega)
      have hc := merge_any wr (.slice aA nA cA) (.slice aB nB cB) lA lB RA.out RB.out
      rw [YA.out, YB.out, Bool.and_true] at hc
      go_wp2_with fail
      refine hc.mono ?_
      clear hc
      intro e wm hd
      obtain ⟨sv, rfl, hrow, hq⟩ := hd.good (by have := HMM.out; omega)
      have hsl := hrow.slots (mergeL_wide lA lB KA.out.2 KB.out.2)
      obtain ⟨aM, cM, rfl, _⟩ := hsl.shape
      have Q' := Lib.hid (Q.out.trans (hq.mono Q.out.size))
      clear Q
      have Q := Q'
      clear Q'
      have RA' := Lib.hid (RA.out.later hq)
      clear RA
      have RA := RA'
      clear RA'
      have RB' := Lib.hid (RB.out.later hq)
      clear RB
      have RB := RB'
      clear RB'
      have RM := Lib.hid hsl
      clear hsl hrow hq hd
      obtain ⟨nM, hnM⟩ : ∃ m, (mergeL lA lB).length = m := ⟨_, rfl⟩
      rw [hnM] at RM ⊢
      clear hnM
      go_wp2_with fail
      go_loopw [17, 18, 19] (fun q r i wr => ∃ k : Nat, k ≤ nB ∧ i = .int .i64 (k : Int) ∧ SlotsAt wr q (putsL lA (lB.take k)) ∧ SlotsAt wr r (putsL lA (lB.reverse.take k)) ∧ Below wm.heap.size wm wr) (fun _ _ i _ => nB - (intOf i).toNat)
      case atStart => exact ⟨0, by omega, rfl, by rw [List.take_zero]; exact RA.out, by rw [List.take_zero]; exact RA.out, Below.refl _ _⟩
      case round =>
        obtain ⟨k, hk, rfl, hqs, hrs, hq⟩ := hrel
        have HQ := Lib.hid hq
        have HS := Lib.hid hqs
        have HR := Lib.hid hrs
        clear hq hqs hrs
        by_cases hkm : k < nB
        · have hkI : (k : Int) < (nB : Int) := by omega
          have hk0 : (0 : Int) ≤ (k : Int) := by omega
          have hkb : (k : Int) ≤ 9223372036854775806 := by have := BNB.out; omega
          obtain ⟨j, hj⟩ : ∃ j, nB - 1 - k = j := ⟨_, rfl⟩
          have hj1 : (nB : Int) - 1 - (k : Int) = (j : Int) := by omega
          have hj2 : (j : Int) < (nB : Int) := by omega
          have hj0 : (0 : Int) ≤ (j : Int) := by omega
          have hn1 : (1 : Int) ≤ (nB : Int) := by omega
          have hn2 : (nB : Int) ≤ 9223372036854775806 := by have := BNB.out; omega
          obtain ⟨x, hx0⟩ : ∃ x, lB[k]? = some x := ⟨_, List.getElem?_eq_getElem (by have := HNB.out; omega)⟩
          obtain ⟨z, hz0⟩ : ∃ z, lB[j]? = some z := ⟨_, List.getElem?_eq_getElem (by have := HNB.out; omega)⟩
          have hz1 : lB.reverse[k]? = some z := by
            rw [List.getElem?_reverse (by have := HNB.out; omega), HNB.out, hj]
            exact hz0
          obtain ⟨b, rfl, _⟩ := (RB.out.later HQ.out).at hx0
          have hx := Lib.hid hx0
          have hz := Lib.hid hz0
          have hz' := Lib.hid hz1
          have wx := Lib.hid (RB.out.wide hx0)
          have wz' := Lib.hid (RB.out.wide hz0)
          have PW1 := Lib.hid (putsL_wide (l := lB.take (k + 1)) KA.out.2 (fun x hx => KB.out.2 x (List.mem_of_mem_take hx)))
          have PW2 := Lib.hid (putsL_wide (l := lB.reverse.take (k + 1)) KA.out.2 (fun x hx => KB.out.2 x (List.mem_reverse.1 (List.mem_of_mem_take hx))))
          have P1 := Lib.hid (fun (y : World) (hb : Below wr.heap.size wr y) => puts_step y u17 lA lB k x (HS.out.later hb) KA.out.1.2 (by have := HNA.out; have := HNB.out; have := BNA.out; have := BNB.out; omega) hx0 wx.out)
          have HK := Lib.hid hkm
          clear hkm hk hx0 hz0 hz1 hj HS
          go_wp2_with fail
          refine Late.wp_region_ghost [some (u17), some (.slice (some b) nB cB), some (.int .i64 (k : Int)), some (.pointer (some (b.add (k * 8)))), some (.pointer (some (b.add (k * 8)))), some (.agg #[.int .u64 (lim x.1 0), .int .u64 (lim x.1 1), .int .u64 (lim x.1 2), .int .u64 (lim x.1 3)]), some (.slice (some b) nB cB), some (.int .i64 (k : Int)), some (.pointer (some (b.add (k * 8)))), some (.pointer (some ⟨(b.add (k * 8)).block, (b.add (k * 8)).off + 4, none⟩)), some (.agg #[.int .u64 (lim x.2 0), .int .u64 (lim x.2 1), .int .u64 (lim x.2 2), .int .u64 (lim x.2 3)]), none, none, none, some (.int .i64 0), none] [[], [], [], [1, 2], [1, 2, 3], [1, 2, 3, 4], [], [], [6, 7], [6, 7, 8], [6, 7, 8, 9], [0, 1, 2, 3, 4, 5, 6, 7, 8, 9, 10], [0, 1, 2, 3, 4, 5, 6, 7, 8, 9, 10, 11], [0, 1, 2, 3, 4, 5, 6, 7, 8, 9, 10, 11, 12], [0, 1, 2, 3, 4, 5, 6, 7, 8, 9, 10, 11, 12], [0, 1, 2, 3, 4, 5, 6, 7, 8, 9, 10, 11, 12, 13]] (PutU wr (putsL lA (lB.take (k + 1))) 11 12 13 15)
            (by kernel_rfl) (by kernel_rfl) (by kernel_rfl) (fun f g wa wb h hb => h.later hb) (fun f f' g g' wa h => fun hh => hh.same (h 11 rfl) (h 12 rfl) (h 13 rfl) (h 15 rfl)) PutU.start ?_
          rintro f g y hU Dn
          have c0 := ((RB.out.later (HQ.out.trans (hU.1.mono HQ.out.size))).at' hx.out).1
          have c1 := ((RB.out.later (HQ.out.trans (hU.1.mono HQ.out.size))).at' hx.out).2.1
          have c2 := ((RB.out.later (HQ.out.trans (hU.1.mono HQ.out.size))).at' hx.out).2.2.1
          have c3 := ((RB.out.later (HQ.out.trans (hU.1.mono HQ.out.size))).at' hx.out).2.2.2.1
          have c4 := ((RB.out.later (HQ.out.trans (hU.1.mono HQ.out.size))).at' hx.out).2.2.2.2.1
          have c5 := ((RB.out.later (HQ.out.trans (hU.1.mono HQ.out.size))).at' hx.out).2.2.2.2.2.1
          have c6 := ((RB.out.later (HQ.out.trans (hU.1.mono HQ.out.size))).at' hx.out).2.2.2.2.2.2.1
          have c7 := ((RB.out.later (HQ.out.trans (hU.1.mono HQ.out.size))).at' hx.out).2.2.2.2.2.2.2
          refine GW.known _ rfl (fun hd hf => ?_) ?_
          · go_wp2
            exact ⟨rfl, rfl, Below.refl _ _⟩
          simp only [Act.put, List.setIfInBounds_toArray, List.set_cons_succ, List.set_cons_zero]
          refine GW.known _ rfl (fun hd hf => ?_) ?_
          · go_wp2
            exact ⟨rfl, rfl, Below.refl _ _⟩
          simp only [Act.put, List.setIfInBounds_toArray, List.set_cons_succ, List.set_cons_zero]
          refine GW.known _ rfl (fun hd hf => ?_) ?_
          · go_wp2
            exact ⟨rfl, rfl, Below.refl _ _⟩
          simp only [Act.put, List.setIfInBounds_toArray, List.set_cons_succ, List.set_cons_zero]
          refine GW.known _ rfl (fun hd hf => ?_) ?_
          · go_wp2
            exact ⟨rfl, rfl, Below.refl _ _⟩
          simp only [Act.put, List.setIfInBounds_toArray, List.set_cons_succ, List.set_cons_zero]
          refine GW.known _ rfl (fun hd hf => ?_) ?_
          · go_wp2
            exact ⟨rfl, rfl, Below.refl _ _⟩
          simp only [Act.put, List.setIfInBounds_toArray, List.set_cons_succ, List.set_cons_zero]
          refine GW.known _ rfl (fun hd hf => ?_) ?_
          · go_wp2
            exact ⟨rfl, rfl, Below.refl _ _⟩
          simp only [Act.put, List.setIfInBounds_toArray, List.set_cons_succ, List.set_cons_zero]
          refine GW.known _ rfl (fun hd hf => ?_) ?_
          · go_wp2
            exact ⟨rfl, rfl, Below.refl _ _⟩
          simp only [Act.put, List.setIfInBounds_toArray, List.set_cons_succ, List.set_cons_zero]
          refine GW.known _ rfl (fun hd hf => ?_) ?_
          · go_wp2
            exact ⟨rfl, rfl, Below.refl _ _⟩
          simp only [Act.put, List.setIfInBounds_toArray, List.set_cons_succ, List.set_cons_zero]
          refine GW.known _ rfl (fun hd hf => ?_) ?_
          · go_wp2
            exact ⟨rfl, rfl, Below.refl _ _⟩
          simp only [Act.put, List.setIfInBounds_toArray, List.set_cons_succ, List.set_cons_zero]
          refine GW.known _ rfl (fun hd hf => ?_) ?_
          · go_wp2
            exact ⟨rfl, rfl, Below.refl _ _⟩
          simp only [Act.put, List.setIfInBounds_toArray, List.set_cons_succ, List.set_cons_zero]
          refine GW.known _ rfl (fun hd hf => ?_) ?_
          · go_wp2
            exact ⟨rfl, rfl, Below.refl _ _⟩
          simp only [Act.put, List.setIfInBounds_toArray, List.set_cons_succ, List.set_cons_zero]
          refine GW.open rfl (fun hd hf => ?_) ?_
          · have f1 : f 12 = false := (by cases h : f 12 with | false => rfl | true => exact absurd (Dn 12 h 11 (by decide)) (by rw [hf]; simp))
            have f2 : f 13 = false := (by cases h : f 13 with | false => rfl | true => exact absurd (Dn 13 h 11 (by decide)) (by rw [hf]; simp))
            have f3 : f 15 = false := (by cases h : f 15 with | false => rfl | true => exact absurd (Dn 15 h 11 (by decide)) (by rw [hf]; simp))
            go_wp2_with fail
            refine (P1.out y hU.1).mono ?_
            rintro e u ⟨sv, rfl, hrow, hb⟩
            go_wp2
            exact ⟨rfl, hU.call f1 f2 f3 (by decide) (by decide) (by decide) hb hrow⟩
          simp only [Act.put, List.setIfInBounds_toArray, List.set_cons_succ, List.set_cons_zero]
          refine GW.open rfl (fun hd hf => ?_) ?_
          · obtain ⟨sv, e1, _⟩ := hU.got (hd 11 (by decide))
            have hm := hU.move (by decide) (by decide) (by decide)
            rw [e1] at hm ⊢
            go_wp2
            exact ⟨rfl, hm⟩
          simp only [Act.put, List.setIfInBounds_toArray, List.set_cons_succ, List.set_cons_zero]
          refine GW.open rfl (fun hd hf => ?_) ?_
          · obtain ⟨sv, e1, e2⟩ := hU.moved (hd 11 (by decide)) (hd 12 (by decide))
            have f3 : f 15 = false := (by cases h : f 15 with | false => rfl | true => exact absurd (Dn 15 h 13 (by decide)) (by rw [hf]; simp))
            have hm := hU.first e1 f3 (by decide) (by decide) (by decide)
            rw [e1, e2]
            go_wp2
            exact ⟨rfl, hm⟩
          simp only [Act.put, List.setIfInBounds_toArray, List.set_cons_succ, List.set_cons_zero]
          refine GW.known _ rfl (fun hd hf => ?_) ?_
          · obtain ⟨sv, e1, e2⟩ := hU.moved (hd 11 (by decide)) (hd 12 (by decide))
            rw [e1, e2]
            go_wp2
            exact ⟨rfl, rfl, Below.refl _ _⟩
          simp only [Act.put, List.setIfInBounds_toArray, List.set_cons_succ, List.set_cons_zero]
          refine GW.open rfl (fun hd hf => ?_) ?_
          · have hm := hU.assign (by decide) (by decide) (by decide)
            go_wp2
            exact ⟨rfl, hm⟩
          simp only [Act.put, List.setIfInBounds_toArray, List.set_cons_succ, List.set_cons_zero]
          refine GW.nil (fun hall => ?_)
          obtain ⟨sv, e1, e2, e3, e4, hrow, hq⟩ := hU.done (hall 11 (by omega)) (hall 12 (by omega)) (hall 13 (by omega)) (hall 15 (by omega))
          rw [e1, e2, e3, e4]
          clear e1 e2 e3 e4 hU Dn hall
          clear c0 c1 c2 c3 c4 c5 c6 c7
          obtain ⟨y1, hy1⟩ : ∃ y1, y1 = y := ⟨_, rfl⟩
          subst hy1
          have HQ2 := Lib.hid (HQ.out.trans (hq.mono HQ.out.size))
          have HQU := Lib.hid (hrow.slots PW1.out)
          replace HR := Lib.hid (HR.out.later hq)
          have P2 := Lib.hid (fun (y : World) (hb : Below y1.heap.size y1 y) => puts_step y u18 lA lB.reverse k z (HR.out.later hb) KA.out.1.2 (by rw [List.length_reverse]; have := HNA.out; have := HNB.out; have := BNA.out; have := BNB.out; omega) hz'.out wz'.out)
          clear hrow hq P1
          go_wp2_with fail
          refine Late.wp_region_ghost [some (u18), some (.slice (some b) nB cB), some (.slice (some b) nB cB), some (.int .i64 (nB : Int)), some (.int .i64 ((nB : Int) - 1)), some (.int .i64 (k : Int)), some (.int .i64 (j : Int)), some (.pointer (some (b.add (j * 8)))), some (.pointer (some (b.add (j * 8)))), some (.agg #[.int .u64 (lim z.1 0), .int .u64 (lim z.1 1), .int .u64 (lim z.1 2), .int .u64 (lim z.1 3)]), some (.slice (some b) nB cB), some (.slice (some b) nB cB), some (.int .i64 (nB : Int)), some (.int .i64 ((nB : Int) - 1)), some (.int .i64 (k : Int)), some (.int .i64 (j : Int)), some (.pointer (some (b.add (j * 8)))), some (.pointer (some ⟨(b.add (j * 8)).block, (b.add (j * 8)).off + 4, none⟩)), some (.agg #[.int .u64 (lim z.2 0), .int .u64 (lim z.2 1), .int .u64 (lim z.2 2), .int .u64 (lim z.2 3)]), none, none, none, some (.int .i64 0), none] [[], [], [], [2], [2, 3], [], [2, 3, 4, 5], [1, 2, 3, 4, 5, 6], [1, 2, 3, 4, 5, 6, 7], [1, 2, 3, 4, 5, 6, 7, 8], [], [], [11], [11, 12], [], [11, 12, 13, 14], [10, 11, 12, 13, 14, 15], [10, 11, 12, 13, 14, 15, 16], [10, 11, 12, 13, 14, 15, 16, 17], [0, 1, 2, 3, 4, 5, 6, 7, 8, 9, 10, 11, 12, 13, 14, 15, 16, 17, 18], [0, 1, 2, 3, 4, 5, 6, 7, 8, 9, 10, 11, 12, 13, 14, 15, 16, 17, 18, 19], [0, 1, 2, 3, 4, 5, 6, 7, 8, 9, 10, 11, 12, 13, 14, 15, 16, 17, 18, 19, 20], [0, 1, 2, 3, 4, 5, 6, 7, 8, 9, 10, 11, 12, 13, 14, 15, 16, 17, 18, 19, 20], [0, 1, 2, 3, 4, 5, 6, 7, 8, 9, 10, 11, 12, 13, 14, 15, 16, 17, 18, 19, 20, 21]] (PutU y1 (putsL lA (lB.reverse.take (k + 1))) 19 20 21 23)
            (by kernel_rfl) (by kernel_rfl) (by kernel_rfl) (fun f g wa wb h hb => h.later hb) (fun f f' g g' wa h => fun hh => hh.same (h 19 rfl) (h 20 rfl) (h 21 rfl) (h 23 rfl)) PutU.start ?_
          rintro f g y hU Dn
          have c0 := ((RB.out.later (HQ2.out.trans (hU.1.mono HQ2.out.size))).at' hz.out).1
          have c1 := ((RB.out.later (HQ2.out.trans (hU.1.mono HQ2.out.size))).at' hz.out).2.1
          have c2 := ((RB.out.later (HQ2.out.trans (hU.1.mono HQ2.out.size))).at' hz.out).2.2.1
          have c3 := ((RB.out.later (HQ2.out.trans (hU.1.mono HQ2.out.size))).at' hz.out).2.2.2.1
          have c4 := ((RB.out.later (HQ2.out.trans (hU.1.mono HQ2.out.size))).at' hz.out).2.2.2.2.1
          have c5 := ((RB.out.later (HQ2.out.trans (hU.1.mono HQ2.out.size))).at' hz.out).2.2.2.2.2.1
          have c6 := ((RB.out.later (HQ2.out.trans (hU.1.mono HQ2.out.size))).at' hz.out).2.2.2.2.2.2.1
          have c7 := ((RB.out.later (HQ2.out.trans (hU.1.mono HQ2.out.size))).at' hz.out).2.2.2.2.2.2.2
          refine GW.known _ rfl (fun hd hf => ?_) ?_
          · go_wp2
            exact ⟨rfl, rfl, Below.refl _ _⟩
          simp only [Act.put, List.setIfInBounds_toArray, List.set_cons_succ, List.set_cons_zero]
          refine GW.known _ rfl (fun hd hf => ?_) ?_
          · go_wp2
            exact ⟨rfl, rfl, Below.refl _ _⟩
          simp only [Act.put, List.setIfInBounds_toArray, List.set_cons_succ, List.set_cons_zero]
          refine GW.known _ rfl (fun hd hf => ?_) ?_
          · go_wp2
            exact ⟨rfl, rfl, Below.refl _ _⟩
          simp only [Act.put, List.setIfInBounds_toArray, List.set_cons_succ, List.set_cons_zero]
          refine GW.known _ rfl (fun hd hf => ?_) ?_
          · go_wp2
            exact ⟨rfl, rfl, Below.refl _ _⟩
          simp only [Act.put, List.setIfInBounds_toArray, List.set_cons_succ, List.set_cons_zero]
          refine GW.known _ rfl (fun hd hf => ?_) ?_
          · go_wp2
            exact ⟨rfl, rfl, Below.refl _ _⟩
          simp only [Act.put, List.setIfInBounds_toArray, List.set_cons_succ, List.set_cons_zero]
          refine GW.known _ rfl (fun hd hf => ?_) ?_
          · go_wp2
            exact ⟨rfl, rfl, Below.refl _ _⟩
          simp only [Act.put, List.setIfInBounds_toArray, List.set_cons_succ, List.set_cons_zero]
          refine GW.known _ rfl (fun hd hf => ?_) ?_
          · go_wp2
            exact ⟨rfl, rfl, Below.refl _ _⟩
          simp only [Act.put, List.setIfInBounds_toArray, List.set_cons_succ, List.set_cons_zero]
          refine GW.known _ rfl (fun hd hf => ?_) ?_
          · go_wp2
            exact ⟨rfl, rfl, Below.refl _ _⟩
          simp only [Act.put, List.setIfInBounds_toArray, List.set_cons_succ, List.set_cons_zero]
          refine GW.known _ rfl (fun hd hf => ?_) ?_
          · go_wp2
            exact ⟨rfl, rfl, Below.refl _ _⟩
          simp only [Act.put, List.setIfInBounds_toArray, List.set_cons_succ, List.set_cons_zero]
          refine GW.known _ rfl (fun hd hf => ?_) ?_
          · go_wp2
            exact ⟨rfl, rfl, Below.refl _ _⟩
          simp only [Act.put, List.setIfInBounds_toArray, List.set_cons_succ, List.set_cons_zero]
          refine GW.known _ rfl (fun hd hf => ?_) ?_
          · go_wp2
            exact ⟨rfl, rfl, Below.refl _ _⟩
          simp only [Act.put, List.setIfInBounds_toArray, List.set_cons_succ, List.set_cons_zero]
          refine GW.known _ rfl (fun hd hf => ?_) ?_
          · go_wp2
            exact ⟨rfl, rfl, Below.refl _ _⟩
          simp only [Act.put, List.setIfInBounds_toArray, List.set_cons_succ, List.set_cons_zero]
          refine GW.known _ rfl (fun hd hf => ?_) ?_
          · go_wp2
            exact ⟨rfl, rfl, Below.refl _ _⟩
          simp only [Act.put, List.setIfInBounds_toArray, List.set_cons_succ, List.set_cons_zero]
          refine GW.known _ rfl (fun hd hf => ?_) ?_
          · go_wp2
            exact ⟨rfl, rfl, Below.refl _ _⟩
          simp only [Act.put, List.setIfInBounds_toArray, List.set_cons_succ, List.set_cons_zero]
          refine GW.known _ rfl (fun hd hf => ?_) ?_
          · go_wp2
            exact ⟨rfl, rfl, Below.refl _ _⟩
          simp only [Act.put, List.setIfInBounds_toArray, List.set_cons_succ, List.set_cons_zero]
          refine GW.known _ rfl (fun hd hf => ?_) ?_
          · go_wp2
            exact ⟨rfl, rfl, Below.refl _ _⟩
          simp only [Act.put, List.setIfInBounds_toArray, List.set_cons_succ, List.set_cons_zero]
          refine GW.known _ rfl (fun hd hf => ?_) ?_
          · go_wp2
            exact ⟨rfl, rfl, Below.refl _ _⟩
          simp only [Act.put, List.setIfInBounds_toArray, List.set_cons_succ, List.set_cons_zero]
          refine GW.known _ rfl (fun hd hf => ?_) ?_
          · go_wp2
            exact ⟨rfl, rfl, Below.refl _ _⟩
          simp only [Act.put, List.setIfInBounds_toArray, List.set_cons_succ, List.set_cons_zero]
          refine GW.known _ rfl (fun hd hf => ?_) ?_
          · go_wp2
            exact ⟨rfl, rfl, Below.refl _ _⟩
          simp only [Act.put, List.setIfInBounds_toArray, List.set_cons_succ, List.set_cons_zero]
          refine GW.open rfl (fun hd hf => ?_) ?_
          · have f1 : f 20 = false := (by cases h : f 20 with | false => rfl | true => exact absurd (Dn 20 h 19 (by decide)) (by rw [hf]; simp))
            have f2 : f 21 = false := (by cases h : f 21 with | false => rfl | true => exact absurd (Dn 21 h 19 (by decide)) (by rw [hf]; simp))
            have f3 : f 23 = false := (by cases h : f 23 with | false => rfl | true => exact absurd (Dn 23 h 19 (by decide)) (by rw [hf]; simp))
            go_wp2_with fail
            refine (P2.out y hU.1).mono ?_
            rintro e u ⟨sv, rfl, hrow, hb⟩
            go_wp2
            exact ⟨rfl, hU.call f1 f2 f3 (by decide) (by decide) (by decide) hb hrow⟩
          simp only [Act.put, List.setIfInBounds_toArray, List.set_cons_succ, List.set_cons_zero]
          refine GW.open rfl (fun hd hf => ?_) ?_
          · obtain ⟨sv, e1, _⟩ := hU.got (hd 19 (by decide))
            have hm := hU.move (by decide) (by decide) (by decide)
            rw [e1] at hm ⊢
            go_wp2
            exact ⟨rfl, hm⟩
          simp only [Act.put, List.setIfInBounds_toArray, List.set_cons_succ, List.set_cons_zero]
          refine GW.open rfl (fun hd hf => ?_) ?_
          · obtain ⟨sv, e1, e2⟩ := hU.moved (hd 19 (by decide)) (hd 20 (by decide))
            have f3 : f 23 = false := (by cases h : f 23 with | false => rfl | true => exact absurd (Dn 23 h 21 (by decide)) (by rw [hf]; simp))
            have hm := hU.first e1 f3 (by decide) (by decide) (by decide)
            rw [e1, e2]
            go_wp2
            exact ⟨rfl, hm⟩
          simp only [Act.put, List.setIfInBounds_toArray, List.set_cons_succ, List.set_cons_zero]
          refine GW.known _ rfl (fun hd hf => ?_) ?_
          · obtain ⟨sv, e1, e2⟩ := hU.moved (hd 19 (by decide)) (hd 20 (by decide))
            rw [e1, e2]
            go_wp2
            exact ⟨rfl, rfl, Below.refl _ _⟩
          simp only [Act.put, List.setIfInBounds_toArray, List.set_cons_succ, List.set_cons_zero]
          refine GW.open rfl (fun hd hf => ?_) ?_
          · have hm := hU.assign (by decide) (by decide) (by decide)
            go_wp2
            exact ⟨rfl, hm⟩
          simp only [Act.put, List.setIfInBounds_toArray, List.set_cons_succ, List.set_cons_zero]
          refine GW.nil (fun hall => ?_)
          obtain ⟨sv, e1, e2, e3, e4, hrow, hq⟩ := hU.done (hall 19 (by omega)) (hall 20 (by omega)) (hall 21 (by omega)) (hall 23 (by omega))
          rw [e1, e2, e3, e4]
          clear e1 e2 e3 e4 hU Dn hall
          clear c0 c1 c2 c3 c4 c5 c6 c7
          obtain ⟨y2, hy2⟩ : ∃ y2, y2 = y := ⟨_, rfl⟩
          subst hy2
          have HQ3 := Lib.hid (HQ2.out.trans (hq.mono HQ2.out.size))
          have HQV := Lib.hid (HQU.out.later hq)
          have HRV := Lib.hid (hrow.slots PW2.out)
          clear hrow hq HQU HQ2 P2
          have G3 := Lib.hid (fun zz : Ext y2 => (show Calls Try.prog 13 #[.slice aM nM cM, .agg #[.int .u64 (lim x.1 0), .int .u64 (lim x.1 1), .int .u64 (lim x.1 2), .int .u64 (lim x.1 3)]] zz.w fun e w' => e = .returned (.agg #[.int .u64 (lim x.2 0), .int .u64 (lim x.2 1), .int .u64 (lim x.2 2), .int .u64 (lim x.2 3)]) ∧ ∃ y : Ext y2, w' = y.w from by
            have h := Ext.at (get_any zz.w (.slice aM nM cM) _ (RM.out.later (HQ3.out.trans (zz.below.mono HQ3.out.size))) x.1 wx.out.1)
            rw [look_merge_mem KA.out.1.2 KB.out.1.2 hx.out] at h
            exact h))
          have hC := fun zz : Ext y2 => (RB.out.later (HQ3.out.trans (zz.below.mono HQ3.out.size))).at' hx.out
          have c0 := fun zz : Ext y2 => (hC zz).1
          have c1 := fun zz : Ext y2 => (hC zz).2.1
          have c2 := fun zz : Ext y2 => (hC zz).2.2.1
          have c3 := fun zz : Ext y2 => (hC zz).2.2.2.1
          have c4 := fun zz : Ext y2 => (hC zz).2.2.2.2.1
          have c5 := fun zz : Ext y2 => (hC zz).2.2.2.2.2.1
          have c6 := fun zz : Ext y2 => (hC zz).2.2.2.2.2.2.1
          have c7 := fun zz : Ext y2 => (hC zz).2.2.2.2.2.2.2
          clear hC
          go_wp2_with fail
          refine wp_region_quietL (C := Grows y2) hmx (by kernel_rfl) (grows_refl y2) ?_
          repeat (go_big_quiet_step (first | (with_reducible exact G3.out _)))
          refine wpQuiet_nil ?_
          rintro _ ⟨zz, rfl⟩
          have HE := Lib.hid (HQ3.out.trans (zz.below.mono HQ3.out.size))
          have HQW := Lib.hid (HQV.out.later zz.below)
          have HRW := Lib.hid (HRV.out.later zz.below)
          clear c0 c1 c2 c3 c4 c5 c6 c7 G3 HQV HRV
          go_wp2_with fail
          go_roundw
          case rel => exact ⟨k + 1, by have := HK.out; omega, by simp, HQW.out, HRW.out, HE.out⟩
          case measure => have := HK.out; simp [intOf]; omega
        · have hkI : ¬ (k : Int) < (nB : Int) := by omega
          obtain rfl : k = nB := by omega
          have e1 : putsL lA (lB.take k) = mergeL lA lB := by rw [List.take_of_length_le (by have := HNB.out; omega)]; exact putsL_merge KA.out.1.2 KB.out.1.2
          have e2 : putsL lA (lB.reverse.take k) = mergeL lA lB := by rw [List.take_of_length_le (by rw [List.length_reverse]; have := HNB.out; omega)]; exact putsL_back KA.out.1.2 KB.out.1.2
          rw [e1] at HS
          rw [e2] at HR
          have hm := RM.out.later HQ.out
          have S1 := same_any wr (.slice aM nM cM) u17 _ _ hm HS.out
          rw [decide_eq_true rfl] at S1
          replace S1 := Lib.hid S1
          have S2 := Lib.hid (fun (y : World) (hb : Below wr.heap.size wr y) => by
            have h := same_any y (.slice aM nM cM) u18 _ _ (hm.later hb) (HR.out.later hb)
            rw [decide_eq_true rfl] at h
            exact h)
          have QW := Lib.hid (Q.out.trans (HQ.out.mono Q.out.size))
          clear hm e1 e2 hk hkm HS HR HQ
          go_wp2_with fail
          refine S1.out.mono ?_
          rintro e wa ⟨rfl, hb⟩
          have S3 := Lib.hid (S2.out wa hb)
          have QX := Lib.hid (QW.out.trans (hb.mono QW.out.size))
          clear S1 S2 hb
          go_wp2_with fail
          refine S3.out.mono ?_
          rintro e wb ⟨rfl, hb⟩
          have QY := Lib.hid (QX.out.trans (hb.mono QX.out.size))
          clear S3 hb
          go_wp2_with fail
          go_ret
          exact ⟨rfl, QY.out⟩
end Go.Proofs.Ytcannohmbaaceaa
