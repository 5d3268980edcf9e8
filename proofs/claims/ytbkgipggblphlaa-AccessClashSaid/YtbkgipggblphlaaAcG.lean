/- fit, Right, same, Same, May. Conditions: the keys lie in memory. -/
import Derived.Test.YtbkgipggblphlaaAcE
namespace Go.Proofs.Ytbkgipggblphlaa
open Go Go.RowKit
attribute [local go_sem] Oper.semAt_some Grows wide_fn

theorem below_rowK {B g : Nat} {w0 w : World} (hb : Below B w0 w) (hBg : B ≤ g) (cs : Array Value) : Below B w0 (w.setRow g cs) :=
  hb.trans ⟨rfl, rfl, rfl, by simp [World.setRow], fun k hk => setRow_other w g k cs (by omega)⟩
theorem kyC_one (k : Ky) : (kyC k).all (·.oneCell') = true := by
  rw [Array.all_eq_true_iff_forall_mem]
  intro u hu
  exact kyL_one k u (by simpa [kyC] using hu)
/-- May keys be one of the sets? -/
noncomputable def fitB (l : List Ky) : Bool := decide (l.length ≤ 200) && kupB l && !l.any strayB
theorem fitB_no {l : List Ky} {k : Nat} {x : Ky} (hx : l[k]? = some x) (hp : strayB x = true) : fitB l = false := by
  unfold fitB
  rw [List.any_eq_true.2 ⟨x, List.mem_of_getElem? hx, hp⟩]
  simp
theorem fitB_yes {l : List Ky} (h1 : l.length ≤ 200) (h2 : kupB l = true) (h : ∀ (j : Nat) (y : Ky), l[j]? = some y → strayB y = false) : fitB l = true := by
  have : l.any strayB = false := by
    refine Bool.eq_false_iff.2 fun ha => ?_
    obtain ⟨x, hx, hp⟩ := List.any_eq_true.1 ha
    obtain ⟨j, hj⟩ := List.mem_iff_getElem?.1 hx
    rw [h j x hj] at hp
    cases hp
  unfold fitB
  rw [this, h2, decide_eq_true h1]
  rfl
set_option maxRecDepth 100000 in
set_option maxHeartbeats 4000000 in
theorem kfit_any (W : World) (sv : Value) (l : List Ky) (hs : KeysAt W sv l) :
    Calls Try.prog 34 #[sv] W fun e w' => e = .returned (.bool (fitB l)) ∧ Below W.heap.size W w' := by
  have HLo := Lib.hid (long_any W sv l hs)
  obtain ⟨a, cap, rfl, hnc, hcm⟩ := hs.shape
  have HS := Lib.hid hs
  obtain ⟨n, hn⟩ : ∃ n, l.length = n := ⟨_, rfl⟩
  rw [hn] at HS hnc ⊢
  have HN := Lib.hid hn
  have hlc := Lib.hid (Nat.le_trans hnc hcm)
  clear hs hnc hcm hn
  rw [HN.out] at HLo
  have hfin := Lib.hid (show ∀ X v, Below W.heap.size W X → fitB l = v → (Ending.returned (.bool v) = .returned (.bool (fitB l)) ∧ Below W.heap.size W X) from fun X v hX h => ⟨by rw [h], hX⟩)
  obtain ⟨Post, hPost⟩ : ∃ Post : Ending → World → Prop, (fun (e : Ending) (w' : World) => e = .returned (.bool (fitB l)) ∧ Below W.heap.size W w') = Post := ⟨_, rfl⟩
  replace hfin := Lib.hid (show ∀ X v, Below W.heap.size W X → fitB l = v → Post (.returned (.bool v)) X by rw [← hPost]; exact hfin.out)
  rw [hPost]
  clear hPost
  by_cases h2 : 200 < n
  · rw [decide_eq_true h2] at HLo
    have hno := Lib.hid (show fitB l = false by unfold fitB; rw [HN.out, decide_eq_false (by omega)]; rfl)
    clear h2
    go_enter Try.func34, Try.ntmps34
    go_wp2_with (go_at_call 30; refine HLo.out.mono ?_; rintro e w1 ⟨rfl, hb1⟩)
    exact hfin.out _ _ hb1 hno.out
  · rw [decide_eq_false h2] at HLo
    have H2 := Lib.hid h2
    clear h2
    cases hu : kupB l
    · have hno := Lib.hid (show fitB l = false by unfold fitB; rw [hu]; simp)
      have HR := Lib.hid (fun (X : World) (hX : Below W.heap.size W X) => krises_any X _ l (HS.out.later hX))
      rw [hu] at HR
      clear hu
      go_enter Try.func34, Try.ntmps34
      go_wp2_with (first | (go_at_call 30; refine HLo.out.mono ?_; rintro e w1 ⟨rfl, hb1⟩) | (go_at_call 54; refine (HR.out _ hb1).mono ?_; rintro e w2 ⟨rfl, hb2⟩))
      exact hfin.out _ _ (hb1.trans (hb2.mono hb1.size)) hno.out
    · have HU := Lib.hid hu
      have HR := Lib.hid (fun (X : World) (hX : Below W.heap.size W X) => krises_any X _ l (HS.out.later hX))
      rw [hu] at HR
      clear hu
      go_enter Try.func34, Try.ntmps34
      go_wp2_with (first | (go_at_call 30; refine HLo.out.mono ?_; rintro e w1 ⟨rfl, hb1⟩) | (go_at_call 54; refine (HR.out _ hb1).mono ?_; rintro e w2 ⟨rfl, hb2⟩))
      have HB2 := Lib.hid (hb1.trans (hb2.mono hb1.size))
      clear hb1 hb2
      go_loopw [14] (fun i wr => ∃ k : Nat, k ≤ n ∧ i = .int .i64 (k : Int) ∧ (∀ (j : Nat) (y : Ky), j < k → l[j]? = some y → strayB y = false) ∧ Below W.heap.size W wr) (fun i _ => n - (intOf i).toNat)
      case atStart => exact ⟨0, Nat.zero_le _, rfl, fun j x h => absurd h (by omega), HB2.out⟩
      case round =>
        obtain ⟨k, hk, rfl, hlt, hq⟩ := hrel
        have HLT := Lib.hid hlt
        have HQ := Lib.hid hq
        clear hlt hq
        by_cases hkn : k < n
        · have hknI : (k : Int) < (n : Int) := by omega
          have hk0 : (0 : Int) ≤ (k : Int) := by omega
          have hkb : (k : Int) ≤ 9223372036854775806 := by have := hlc.out; omega
          obtain ⟨x, hx⟩ : ∃ x, l[k]? = some x := ⟨_, List.getElem?_eq_getElem (by have := HN.out; omega)⟩
          have hq1 := (HQ.out.alloc HQ.out.size (.cells #[.int .u8 0, .int .u8 0, .int .u8 0, .int .u8 0, .int .u8 0, .int .u8 0, .int .u8 0, .int .u8 0, .int .u8 0, .int .u8 0, .int .u8 0, .int .u8 0, .int .u8 0, .int .u8 0, .int .u8 0, .int .u8 0, .int .u8 0, .int .u8 0, .int .u8 0, .int .u8 0, .bool false, .int .u64 0, .int .u64 0, .int .u64 0, .int .u64 0] 31))
          obtain ⟨b, rfl, ax⟩ := (HS.out.later hq1).at hx
          obtain ⟨b', eb, ax0⟩ := (HS.out.later HQ.out).at hx
          injection eb with eb
          subst eb
          have LX := Lib.hid ax0.load
          have h0 := Has.new wr 31 #[.int .u8 0, .int .u8 0, .int .u8 0, .int .u8 0, .int .u8 0, .int .u8 0, .int .u8 0, .int .u8 0, .int .u8 0, .int .u8 0, .int .u8 0, .int .u8 0, .int .u8 0, .int .u8 0, .int .u8 0, .int .u8 0, .int .u8 0, .int .u8 0, .int .u8 0, .int .u8 0, .bool false, .int .u64 0, .int .u64 0, .int .u64 0, .int .u64 0]
          have h1 : Has ((wr.alloc (.cells #[.int .u8 0, .int .u8 0, .int .u8 0, .int .u8 0, .int .u8 0, .int .u8 0, .int .u8 0, .int .u8 0, .int .u8 0, .int .u8 0, .int .u8 0, .int .u8 0, .int .u8 0, .int .u8 0, .int .u8 0, .int .u8 0, .int .u8 0, .int .u8 0, .int .u8 0, .int .u8 0, .bool false, .int .u64 0, .int .u64 0, .int .u64 0, .int .u64 0] 31)).setRow wr.heap.size (kyC x)) wr.heap.size 31 (kyC x) := setRow_heap _ _ _ _ _ _ h0
          have HQ1 := Lib.hid (below_rowK hq1 (g := wr.heap.size) HQ.out.size (kyC x))
          have hi : (Try.prog.info? 31).map (·.size) = some (kyC x).size := by rw [kyC_size]; exact infoKy
          have ho := kyC_one x
          have hz : (#[.int .u8 0, .int .u8 0, .int .u8 0, .int .u8 0, .int .u8 0, .int .u8 0, .int .u8 0, .int .u8 0, .int .u8 0, .int .u8 0, .int .u8 0, .int .u8 0, .int .u8 0, .int .u8 0, .int .u8 0, .int .u8 0, .int .u8 0, .int .u8 0, .int .u8 0, .int .u8 0, .bool false, .int .u64 0, .int .u64 0, .int .u64 0, .int .u64 0] : Array Value).size = (kyC x).size := by rw [kyC_size]; rfl
          obtain ⟨V1, hV1⟩ : ∃ V1, (wr.alloc (.cells #[.int .u8 0, .int .u8 0, .int .u8 0, .int .u8 0, .int .u8 0, .int .u8 0, .int .u8 0, .int .u8 0, .int .u8 0, .int .u8 0, .int .u8 0, .int .u8 0, .int .u8 0, .int .u8 0, .int .u8 0, .int .u8 0, .int .u8 0, .int .u8 0, .int .u8 0, .int .u8 0, .bool false, .int .u64 0, .int .u64 0, .int .u64 0, .int .u64 0] 31)).setRow wr.heap.size (kyC x) = V1 := ⟨_, rfl⟩
          rw [hV1] at h1 HQ1
          have L1 := Lib.hid h1.kyLoad
          have K3 := Lib.hid (stray_any V1 x (HS.out.ok hx))
          have HX := Lib.hid hx
          have HK := Lib.hid hkn
          clear hx hk hkn ax ax0 hq1 h1
          generalize kyC x = cx at *
          cases hp : strayB x
          · rw [hp] at K3
            have HP := Lib.hid hp
            clear hp
            go_wp2_with (first | (with_reducible refine wpList_load_known rfl _ (.tmp 16) rfl _ rfl _ LX.out ?_) | (refine wpList_store_row rfl _ (.tmp 4) (.tmp 17) rfl _ _ rfl rfl _ _ h0 hi hz ho ?_; rw [hV1]) | (with_reducible refine wpList_load_known rfl _ (.tmp 4) rfl _ rfl _ L1.out ?_) | (go_at_call 28; refine K3.out.mono ?_; rintro e w1 ⟨rfl, hb1⟩))
            have HE := Lib.hid (HQ1.out.trans (hb1.mono HQ1.out.size))
            clear h0 hV1
            go_wp2_with fail
            go_roundw
            case rel =>
              refine ⟨k + 1, by have := HK.out; omega, by simp, fun j y hj hy => ?_, HE.out⟩
              by_cases hjk : j < k
              · exact HLT.out j y hjk hy
              · obtain rfl : j = k := by omega
                rw [HX.out] at hy
                injection hy with hy
                subst hy
                exact HP.out
            case measure => have := HK.out; simp [intOf]; omega
          · rw [hp] at K3
            have HP := Lib.hid hp
            clear hp
            go_wp2_with (first | (with_reducible refine wpList_load_known rfl _ (.tmp 16) rfl _ rfl _ LX.out ?_) | (refine wpList_store_row rfl _ (.tmp 4) (.tmp 17) rfl _ _ rfl rfl _ _ h0 hi hz ho ?_; rw [hV1]) | (with_reducible refine wpList_load_known rfl _ (.tmp 4) rfl _ rfl _ L1.out ?_) | (go_at_call 28; refine K3.out.mono ?_; rintro e w1 ⟨rfl, hb1⟩))
            have HE := Lib.hid (HQ1.out.trans (hb1.mono HQ1.out.size))
            clear h0 hV1
            go_wp2_with fail
            exact hfin.out _ _ HE.out (fitB_no HX.out HP.out)
        · have hknI : ¬ (k : Int) < (n : Int) := by omega
          have hyes := Lib.hid (show fitB l = true from fitB_yes (by have := H2.out; have := HN.out; omega) HU.out (fun j y hy => HLT.out j y (by have := (List.getElem?_eq_some_iff.1 hy).1; have := HN.out; omega) hy))
          clear hk hkn
          go_wp2_with fail
          exact hfin.out _ _ HQ.out hyes.out
/-- A value of two sets. -/
structure SetsAt (W : World) (v : Value) (r s : List Ky) : Prop where
  ex : ∃ rv sv, v = .agg #[rv, sv] ∧ KeysAt W rv r ∧ KeysAt W sv s
theorem SetsAt.later {W X : World} {v : Value} {r s : List Ky} (h : SetsAt W v r s) (hb : Below W.heap.size W X) : SetsAt X v r s := by
  obtain ⟨rv, sv, e, h1, h2⟩ := h.ex
  exact ⟨rv, sv, e, h1.later hb, h2.later hb⟩
set_option maxRecDepth 100000 in
set_option maxHeartbeats 4000000 in
theorem kright_any (W : World) (v : Value) (r s : List Ky) (hs : SetsAt W v r s) :
    Calls Try.prog 15 #[v] W fun e w' => e = .returned (.bool (fitB r && fitB s)) ∧ Below W.heap.size W w' := by
  obtain ⟨rv, sv, rfl, hr, ht⟩ := hs.ex
  obtain ⟨a, ca, rfl, _, _⟩ := hr.shape
  obtain ⟨b, cb, rfl, _, _⟩ := ht.shape
  have hB := Has.new W 24 #[.slice a r.length ca, .slice b s.length cb]
  have hq0 := (Below.refl W.heap.size W).alloc (Nat.le_refl _) (.cells #[.slice a r.length ca, .slice b s.length cb] 24)
  obtain ⟨V, hV⟩ : ∃ V, W.alloc (.cells #[.slice a r.length ca, .slice b s.length cb] 24) = V := ⟨_, rfl⟩
  rw [hV] at hB hq0
  have Q := Lib.hid hq0
  have c0 := hB.cell 0 _ rfl
  have HC := Lib.hid (kfit_any V _ r (hr.later hq0))
  have HD := Lib.hid (fun (X : World) (hX : Below V.heap.size V X) => kfit_any X _ s (ht.later (hq0.trans (hX.mono hq0.size))))
  have HB := Lib.hid hB
  clear hr ht hs hq0 hB
  generalize fitB r = x at *
  generalize fitB s = y at *
  generalize r.length = n at *
  generalize s.length = m at *
  cases x
  · go_enter Try.func15, Try.ntmps15
    go_wp2_with fail
    refine HC.out.mono ?_
    rintro e w1 ⟨rfl, hb1⟩
    have HE := Lib.hid (Q.out.trans (hb1.mono Q.out.size))
    go_wp2_with fail
    go_ret
    exact ⟨rfl, HE.out⟩
  · go_enter Try.func15, Try.ntmps15
    go_wp2_with fail
    refine HC.out.mono ?_
    rintro e w1 ⟨rfl, hb1⟩
    have HE := Lib.hid (Q.out.trans (hb1.mono Q.out.size))
    have c1 := (HB.out.later hb1).cell 1 _ rfl
    go_wp2_with fail
    refine (HD.out _ hb1).mono ?_
    rintro e w2 ⟨rfl, hb2⟩
    have HF := Lib.hid (HE.out.trans (hb2.mono HE.out.size))
    go_wp2_with fail
    go_ret
    exact ⟨rfl, HF.out⟩
set_option maxRecDepth 100000 in
set_option maxHeartbeats 4000000 in
theorem ksame_any (W : World) (sv tv : Value) (l m : List Ky) (hs : KeysAt W sv l) (ht : KeysAt W tv m) :
    Calls Try.prog 33 #[sv, tv] W fun e w' => e = .returned (.bool (decide (l = m))) ∧ Below W.heap.size W w' := by
  have hmx : Try.prog.follows .mixedOrders = true := by kernel_rfl
  obtain ⟨a, cap, rfl, hnc, hcm⟩ := hs.shape
  have HS := Lib.hid hs
  obtain ⟨n, hn⟩ : ∃ n, l.length = n := ⟨_, rfl⟩
  rw [hn] at HS hnc ⊢
  have HN := Lib.hid hn
  have hlc := Lib.hid (Nat.le_trans hnc hcm)
  clear hs hnc hcm hn
  obtain ⟨a2, cap2, rfl, hnc, hcm⟩ := ht.shape
  have HT := Lib.hid ht
  obtain ⟨n2, hn⟩ : ∃ n2, m.length = n2 := ⟨_, rfl⟩
  rw [hn] at HT hnc ⊢
  have HM := Lib.hid hn
  have hlc2 := Lib.hid (Nat.le_trans hnc hcm)
  clear ht hnc hcm hn
  have hfin := Lib.hid (show ∀ X v, Below W.heap.size W X → decide (l = m) = v → (Ending.returned (.bool v) = .returned (.bool (decide (l = m))) ∧ Below W.heap.size W X) from fun X v hX h => ⟨by rw [h], hX⟩)
  obtain ⟨Post, hPost⟩ : ∃ Post : Ending → World → Prop, (fun (e : Ending) (w' : World) => e = .returned (.bool (decide (l = m))) ∧ Below W.heap.size W w') = Post := ⟨_, rfl⟩
  replace hfin := Lib.hid (show ∀ X v, Below W.heap.size W X → decide (l = m) = v → Post (.returned (.bool v)) X by rw [← hPost]; exact hfin.out)
  rw [hPost]
  clear hPost
  by_cases hnn : n = n2
  · subst hnn
    go_enter Try.func33, Try.ntmps33
    go_wp2_with fail
    go_loopw [5] (fun i wr => ∃ k : Nat, k ≤ n ∧ i = .int .i64 (k : Int) ∧ (∀ (j : Nat), j < k → l[j]? = m[j]?) ∧ Below W.heap.size W wr) (fun i _ => n - (intOf i).toNat)
    case atStart => exact ⟨0, Nat.zero_le _, rfl, fun j h => absurd h (by omega), Below.refl _ _⟩
    case round =>
      obtain ⟨k, hk, rfl, hlt, hq⟩ := hrel
      have HLT := Lib.hid hlt
      have HQ := Lib.hid hq
      clear hlt hq
      by_cases hkn : k < n
      · have hknI : (k : Int) < (n : Int) := by omega
        have hk0 : (0 : Int) ≤ (k : Int) := by omega
        have hkb : (k : Int) ≤ 9223372036854775806 := by have := hlc.out; omega
        obtain ⟨x, hx⟩ : ∃ x, l[k]? = some x := ⟨_, List.getElem?_eq_getElem (by have := HN.out; omega)⟩
        obtain ⟨y, hy⟩ : ∃ y, m[k]? = some y := ⟨_, List.getElem?_eq_getElem (by have := HM.out; omega)⟩
        obtain ⟨b, rfl, ax⟩ := (HS.out.later HQ.out).at hx
        obtain ⟨b2, rfl, ay⟩ := (HT.out.later HQ.out).at hy
        have LX := Lib.hid (show ∀ z : World, Grows wr z → (loadVar 31 (b.add (k * 25))).run Try.prog z = .ok (.agg (kyC x)) z from fun z hz => by obtain ⟨q, rfl⟩ := hz; exact (ax.later q.below).load)
        have LY := Lib.hid (show ∀ z : World, Grows wr z → (loadVar 31 (b2.add (k * 25))).run Try.prog z = .ok (.agg (kyC y)) z from fun z hz => by obtain ⟨q, rfl⟩ := hz; exact (ay.later q.below).load)
        have E := fun w : World => eqKey x y (HS.out.ok hx) (HT.out.ok hy) w
        have HX := Lib.hid hx
        have HY := Lib.hid hy
        have HK := Lib.hid hkn
        clear hx hy hk hkn ax ay
        generalize kyC x = cx at *
        generalize kyC y = cy at *
        cases hp : decide (x = y)
        · rw [hp] at E
          have HP := Lib.hid hp
          clear hp
          go_wp2_with fail
          refine wp_region_quietL (C := Grows wr) hmx (by kernel_rfl) (grows_refl wr) ?_
          repeat (first | (with_reducible refine wpQuiet_load rfl 31 _ rfl _ rfl _ LX.out ?_; simp only [Act.put, List.setIfInBounds_toArray, List.set_cons_succ, List.set_cons_zero]) | (with_reducible refine wpQuiet_load rfl 31 _ rfl _ rfl _ LY.out ?_; simp only [Act.put, List.setIfInBounds_toArray, List.set_cons_succ, List.set_cons_zero]) | (go_big_quiet_step (fail)))
          refine wpQuiet_nil ?_
          rintro _ ⟨z, rfl⟩
          have HE := Lib.hid (HQ.out.trans (z.below.mono HQ.out.size))
          clear LX LY E
          go_wp2_with fail
          exact hfin.out _ _ HE.out (decide_eq_false (fun e => by
            subst e
            have := HX.out.symm.trans HY.out
            injection this with this
            exact of_decide_eq_false HP.out this))
        · rw [hp] at E
          have HP := Lib.hid hp
          clear hp
          go_wp2_with fail
          refine wp_region_quietL (C := Grows wr) hmx (by kernel_rfl) (grows_refl wr) ?_
          repeat (first | (with_reducible refine wpQuiet_load rfl 31 _ rfl _ rfl _ LX.out ?_; simp only [Act.put, List.setIfInBounds_toArray, List.set_cons_succ, List.set_cons_zero]) | (with_reducible refine wpQuiet_load rfl 31 _ rfl _ rfl _ LY.out ?_; simp only [Act.put, List.setIfInBounds_toArray, List.set_cons_succ, List.set_cons_zero]) | (go_big_quiet_step (fail)))
          refine wpQuiet_nil ?_
          rintro _ ⟨z, rfl⟩
          have HE := Lib.hid (HQ.out.trans (z.below.mono HQ.out.size))
          clear LX LY E
          go_wp2_with fail
          go_roundw
          case rel =>
            refine ⟨k + 1, by have := HK.out; omega, by simp, fun j hj => ?_, HE.out⟩
            by_cases hjk : j < k
            · exact HLT.out j hjk
            · obtain rfl : j = k := by omega
              rw [HX.out, HY.out, of_decide_eq_true HP.out]
          case measure => have := HK.out; simp [intOf]; omega
      · have hknI : ¬ (k : Int) < (n : Int) := by omega
        have hyes := Lib.hid (show decide (l = m) = true from decide_eq_true (List.ext_getElem? fun j => by
          by_cases hj : j < n
          · exact HLT.out j (by omega)
          · rw [List.getElem?_eq_none (by have := HN.out; omega), List.getElem?_eq_none (by have := HM.out; omega)]))
        clear hk hkn
        go_wp2_with fail
        exact hfin.out _ _ HQ.out hyes.out
  · have hni : ¬ (n : Int) = (n2 : Int) := by omega
    have hno := Lib.hid (show decide (l = m) = false from decide_eq_false (fun e => hnn (by have := HN.out; have := HM.out; subst e; omega)))
    clear hnn
    go_enter Try.func33, Try.ntmps33
    go_wp2_with fail
    exact hfin.out _ _ (Below.refl _ _) hno.out
end Go.Proofs.Ytbkgipggblphlaa
