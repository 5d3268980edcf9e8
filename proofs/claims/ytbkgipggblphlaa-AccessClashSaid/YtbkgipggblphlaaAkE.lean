/- put of reference 10. Conditions: the keys lie in memory. -/
import Derived.Test.YtbkgipggblphlaaAkC
import Derived.Test.YtbkgipggblphlaaAkD
namespace Go.Proofs.Ytbkgipggblphlaa
open Go Go.RowKit
attribute [local go_sem] Oper.semAt_some Grows wide_fn

theorem KRow.lower {W : World} {base low : Nat} {v : Value} {l : List Ky} (h : KRow W base v l) (hl : low ≤ base) : KRow W low v l := by
  unfold KRow World.ownsRow at h ⊢
  refine ⟨h.1, ?_⟩
  rcases h.2 with h | ⟨g, cap, cur, e, hb, hr⟩
  · exact .inl h
  · exact .inr ⟨g, cap, cur, e, Nat.le_trans hl hb, hr⟩
/-- A key put behind a row of the call's own. -/
theorem push_key (A : World) (base : Nat) (v : Value) (l : List Ky) (h : KRow A base v l) (hb : base ≤ A.heap.size) (hl : l.length ≤ 99999) (y : Ky) (hy : KyOk y) :
    ∃ v' w', (Builtin.append_ #[22, 22] 22 #[v, .slice (some ⟨A.heap.size, 0, none⟩) 1 1]).run Try.prog (A.alloc (.cells (flatKy [y]).toArray 31)) = .ok v' w' ∧ KRow w' base v' (l ++ [y]) ∧ Below base A w' := by
  have hm := keys_made A [y] (by intro z hz; simp at hz; subst hz; exact hy) (by simp)
  have qa := (Below.refl A.heap.size A).alloc (Nat.le_refl _) (.cells (flatKy [y]).toArray 31)
  obtain ⟨v', w', h1, h2, _, h4⟩ := append_keys _ base v l (h.later qa) (Nat.le_trans hb qa.size) _ [y] hm (by simp; omega)
  exact ⟨v', w', h1, h2, (qa.mono hb).trans h4⟩
/-- What is put so far, and what is left. -/
def PutI (x : Ky) (l : List Ky) (k : Nat) (now : List Ky) (d : Bool) : Prop := insK x l = now ++ (if d = true then l.drop k else insK x (l.drop k))
set_option maxRecDepth 100000 in
set_option maxHeartbeats 8000000 in
theorem rput_any (W : World) (sv : Value) (l : List Ky) (x : Ky) (hxo : KyOk x) (hs : KeysAt W sv l) (hl : l.length ≤ 9999) :
    Calls Try.prog 53 #[sv, .agg (kyC x)] W fun e w' => ∃ v', e = .returned v' ∧ KRow w' W.heap.size v' (insK x l) ∧ Below W.heap.size W w' := by
  have hmx : Try.prog.follows .mixedOrders = true := by kernel_rfl
  have hB := Has.new W 31 (kyC x)
  have hq0 := (Below.refl W.heap.size W).alloc (Nat.le_refl _) (.cells (kyC x) 31)
  obtain ⟨V, hV⟩ : ∃ V, W.alloc (.cells (kyC x) 31) = V := ⟨_, rfl⟩
  rw [hV] at hB hq0
  obtain ⟨a, cap, rfl, hnc, hcm⟩ := hs.shape
  have HS := Lib.hid (hs.later hq0)
  have HB := Lib.hid hB
  have Q := Lib.hid hq0
  obtain ⟨n, hn⟩ : ∃ n, l.length = n := ⟨_, rfl⟩
  rw [hn] at HS hnc hl ⊢
  have HN := Lib.hid hn
  have hlc := Lib.hid (And.intro hl (Nat.le_trans hnc hcm))
  have HXO := Lib.hid hxo
  have HPI := Lib.hid (show ∀ k now d, PutI x l k now d → insK x l = now ++ (if d = true then l.drop k else insK x (l.drop k)) from fun _ _ _ h => h)
  clear hB hq0 hs hnc hcm hn hl hxo
  go_enter Try.func53, Try.ntmps53
  go_wp2_with fail
  clear hV
  go_loopw [5, 6, 7] (fun ov dn i wr => ∃ (k : Nat) (now : List Ky) (d : Bool), dn = .bool d ∧ i = .int .i64 (k : Int) ∧ k ≤ n ∧ now.length ≤ k + 1 ∧ (d = false → now.length ≤ k) ∧ KRow wr V.heap.size ov now ∧ PutI x l k now d ∧ Below V.heap.size V wr) (fun _ _ i _ => n - (intOf i).toNat)
  case atStart => exact ⟨0, [], false, rfl, rfl, by omega, by simp, by simp, KRow.nil _ _, rfl, Below.refl _ _⟩
  case round =>
    obtain ⟨k, now, d, rfl, rfl, hkn, hlen, hlf, hrow, hpi, hq⟩ := hrel
    obtain ⟨ov, hov⟩ : ∃ ov, ov = u5 := ⟨_, rfl⟩
    subst hov
    obtain ⟨w0, hw0⟩ : ∃ w0, w0 = wr := ⟨_, rfl⟩
    subst hw0
    have HQ := Lib.hid hq
    have HROW := Lib.hid hrow
    have HK := Lib.hid (And.intro hkn hlen)
    have HLF := Lib.hid hlf
    have HP := Lib.hid hpi
    have QW := Lib.hid (Q.out.trans (hq.mono Q.out.size))
    clear hq hrow hpi hlen hlf
    by_cases hk : k < n
    · have hknI : (k : Int) < (n : Int) := by omega
      have hk0 : (0 : Int) ≤ (k : Int) := by omega
      have hkb : (k : Int) ≤ 9223372036854775806 := by have := hlc.out; omega
      obtain ⟨y, hy⟩ : ∃ y, l[k]? = some y := ⟨_, List.getElem?_eq_getElem (by have := HN.out; omega)⟩
      obtain ⟨b, rfl, ay⟩ := (HS.out.later HQ.out).at hy
      have HYA := Lib.hid (fun (X : World) (hX : Below V.heap.size V X) => (show KyIn X (b.add (k * 25)) y from by
        obtain ⟨b', e, h⟩ := (HS.out.later hX).at hy
        injection e with e
        subst e
        exact h))
      have HYO := Lib.hid (HS.out.ok hy)
      have HD := Lib.hid (show l.drop k = y :: l.drop (k + 1) by
        obtain ⟨h1, h2⟩ := List.getElem?_eq_some_iff.1 hy
        rw [List.drop_eq_getElem_cons h1, h2])
      have LX := Lib.hid (show ∀ z : World, Grows w0 z → (loadVar 31 ⟨W.heap.size, 0, none⟩).run Try.prog z = .ok (.agg (kyC x)) z from fun z hz => by obtain ⟨q, rfl⟩ := hz; exact ((HB.out.later HQ.out).later q.below).kyLoad)
      have LY := Lib.hid (show ∀ z : World, Grows w0 z → (loadVar 31 (b.add (k * 25))).run Try.prog z = .ok (.agg (kyC y)) z from fun z hz => by obtain ⟨q, rfl⟩ := hz; exact (ay.later q.below).load)
      have K3 := Lib.hid (fun z : Ext w0 => Ext.atK (rkorder_any z.w x y HXO.out (HS.out.ok hy)))
      have hc : kcmp x y = -1 ∨ kcmp x y = 0 ∨ kcmp x y = 1 := by
        rcases kcmp_tri x y with ⟨_, e⟩ | ⟨_, e⟩ | ⟨_, e⟩
        · exact .inl e
        · exact .inr (.inl e)
        · exact .inr (.inr e)
      have HI := Lib.hid (show ∀ c, kcmp x y = c → insK x (y :: l.drop (k + 1)) = if c < 0 then x :: y :: l.drop (k + 1) else if c = 0 then y :: l.drop (k + 1) else y :: insK x (l.drop (k + 1)) from fun c h => by subst h; rfl)
      have HKK := Lib.hid hk
      clear hk hkn ay hy
      obtain ⟨c, hcc⟩ : ∃ c, kcmp x y = c := ⟨_, rfl⟩
      replace HI := Lib.hid (HI.out c hcc)
      rw [hcc] at K3 hc
      clear hcc
      rcases hc with rfl | rfl | rfl <;> cases d
      · go_wp2_with fail
        refine wp_region_quietL (C := Grows w0) hmx (by kernel_rfl) (grows_refl w0) ?_
        repeat (first | (with_reducible refine wpQuiet_load rfl 31 _ rfl _ rfl _ LX.out ?_; simp only [Act.put, List.setIfInBounds_toArray, List.set_cons_succ, List.set_cons_zero]) | (with_reducible refine wpQuiet_load rfl 31 _ rfl _ rfl _ LY.out ?_; simp only [Act.put, List.setIfInBounds_toArray, List.set_cons_succ, List.set_cons_zero]) | (go_big_quiet_step (first | (with_reducible exact K3.out _))))
        refine wpQuiet_nil ?_
        rintro _ ⟨z, rfl⟩
        have HE := Lib.hid (HQ.out.trans (z.below.mono HQ.out.size))
        have R0 := Lib.hid (HROW.out.later z.below)
        obtain ⟨v1, A1, r1, k1, b1⟩ := push_key z.w V.heap.size ov now R0.out HE.out.size (by have := hlc.out; have := HK.out; omega) x HXO.out
        have HE1 := Lib.hid (HE.out.trans b1)
        obtain ⟨v2, A2, r2, k2, b2⟩ := push_key A1 V.heap.size v1 (now ++ [x]) k1 HE1.out.size (by have := hlc.out; have := HK.out; simp; omega) y HYO.out
        have L1 := Lib.hid (show (loadVar 31 ⟨W.heap.size, 0, none⟩).run Try.prog z.w = .ok (.agg (kyC x)) z.w from (HB.out.later HE.out).kyLoad)
        have L2 := Lib.hid (show (loadVar 31 (b.add (k * 25))).run Try.prog A1 = .ok (.agg (kyC y)) A1 from KyIn.load (HYA.out A1 HE1.out))
        have HE2 := Lib.hid (HE1.out.trans b2)
        have R1 := Lib.hid r1
        have R2 := Lib.hid r2
        have KF := Lib.hid k2
        clear r1 r2 k1 k2 b1 b2 LX LY K3
        go_wp2_with (first | (refine wpList_load_known rfl _ (.tmp 3) rfl _ rfl _ L1.out ?_) | (refine wpList_load_known rfl _ (.tmp 36) rfl _ rfl _ L2.out ?_) | (refine wpList_build_k1 rfl (.tmp 30) rfl x rfl ?_) | (refine wpList_build_k1 rfl (.tmp 37) rfl y rfl ?_) | (at_builtin; refine wpList_append_runK rfl (.tmp 29) (.tmp 31) 22 rfl _ _ _ rfl rfl R1.out ?_) | (at_builtin; refine wpList_append_runK rfl (.tmp 33) (.tmp 38) 22 rfl _ _ _ rfl rfl R2.out ?_))
        go_roundw
        case rel => exact ⟨k + 1, now ++ [x] ++ [y], true, rfl, by simp, by have := HKK.out; omega, by have := HLF.out (by trivial); simp; omega, by simp, KF.out, by
          have h := HPI.out _ _ _ HP.out
          rw [if_neg (by decide), HD.out, HI.out, if_pos (by decide)] at h
          unfold PutI
          rw [h, if_pos rfl]
          simp, HE2.out⟩
        case measure => have := HKK.out; simp [intOf]; omega
      · go_wp2_with fail
        refine wp_region_quietL (C := Grows w0) hmx (by kernel_rfl) (grows_refl w0) ?_
        repeat (first | (with_reducible refine wpQuiet_load rfl 31 _ rfl _ rfl _ LX.out ?_; simp only [Act.put, List.setIfInBounds_toArray, List.set_cons_succ, List.set_cons_zero]) | (with_reducible refine wpQuiet_load rfl 31 _ rfl _ rfl _ LY.out ?_; simp only [Act.put, List.setIfInBounds_toArray, List.set_cons_succ, List.set_cons_zero]) | (go_big_quiet_step (first | (with_reducible exact K3.out _))))
        refine wpQuiet_nil ?_
        rintro _ ⟨z, rfl⟩
        have HE := Lib.hid (HQ.out.trans (z.below.mono HQ.out.size))
        have R0 := Lib.hid (HROW.out.later z.below)
        obtain ⟨v2, A2, r2, k2, b2⟩ := push_key z.w V.heap.size ov now R0.out HE.out.size (by have := hlc.out; have := HK.out; omega) y HYO.out
        have L2 := Lib.hid (show (loadVar 31 (b.add (k * 25))).run Try.prog z.w = .ok (.agg (kyC y)) z.w from KyIn.load (HYA.out z.w HE.out))
        have HE2 := Lib.hid (HE.out.trans b2)
        have R2 := Lib.hid r2
        have KF := Lib.hid k2
        clear r2 k2 b2 LX LY K3
        go_wp2_with (first | (refine wpList_load_known rfl _ (.tmp 36) rfl _ rfl _ L2.out ?_) | (refine wpList_build_k1 rfl (.tmp 37) rfl y rfl ?_) | (at_builtin; refine wpList_append_runK rfl (.tmp 33) (.tmp 38) 22 rfl _ _ _ rfl rfl R2.out ?_))
        go_roundw
        case rel => exact ⟨k + 1, now ++ [y], true, rfl, by simp, by have := HKK.out; omega, by have := HK.out; simp; omega, by simp, KF.out, by
          have h := HPI.out _ _ _ HP.out
          rw [if_pos rfl, HD.out] at h
          unfold PutI
          rw [h, if_pos rfl]
          simp, HE2.out⟩
        case measure => have := HKK.out; simp [intOf]; omega
      · go_wp2_with fail
        refine wp_region_quietL (C := Grows w0) hmx (by kernel_rfl) (grows_refl w0) ?_
        repeat (first | (with_reducible refine wpQuiet_load rfl 31 _ rfl _ rfl _ LX.out ?_; simp only [Act.put, List.setIfInBounds_toArray, List.set_cons_succ, List.set_cons_zero]) | (with_reducible refine wpQuiet_load rfl 31 _ rfl _ rfl _ LY.out ?_; simp only [Act.put, List.setIfInBounds_toArray, List.set_cons_succ, List.set_cons_zero]) | (go_big_quiet_step (first | (with_reducible exact K3.out _))))
        refine wpQuiet_nil ?_
        rintro _ ⟨z, rfl⟩
        have HE := Lib.hid (HQ.out.trans (z.below.mono HQ.out.size))
        have R0 := Lib.hid (HROW.out.later z.below)
        obtain ⟨v2, A2, r2, k2, b2⟩ := push_key z.w V.heap.size ov now R0.out HE.out.size (by have := hlc.out; have := HK.out; omega) y HYO.out
        have L2 := Lib.hid (show (loadVar 31 (b.add (k * 25))).run Try.prog z.w = .ok (.agg (kyC y)) z.w from KyIn.load (HYA.out z.w HE.out))
        have HE2 := Lib.hid (HE.out.trans b2)
        have R2 := Lib.hid r2
        have KF := Lib.hid k2
        clear r2 k2 b2 LX LY K3
        go_wp2_with (first | (refine wpList_load_known rfl _ (.tmp 36) rfl _ rfl _ L2.out ?_) | (refine wpList_build_k1 rfl (.tmp 37) rfl y rfl ?_) | (at_builtin; refine wpList_append_runK rfl (.tmp 33) (.tmp 38) 22 rfl _ _ _ rfl rfl R2.out ?_))
        go_roundw
        case rel => exact ⟨k + 1, now ++ [y], true, rfl, by simp, by have := HKK.out; omega, by have := HK.out; simp; omega, by simp, KF.out, by
          have h := HPI.out _ _ _ HP.out
          rw [if_neg (by decide), HD.out, HI.out, if_neg (by decide)] at h
          first | rw [if_pos rfl] at h | rw [if_pos trivial] at h
          unfold PutI
          rw [h, if_pos rfl]
          simp, HE2.out⟩
        case measure => have := HKK.out; simp [intOf]; omega
      · go_wp2_with fail
        refine wp_region_quietL (C := Grows w0) hmx (by kernel_rfl) (grows_refl w0) ?_
        repeat (first | (with_reducible refine wpQuiet_load rfl 31 _ rfl _ rfl _ LX.out ?_; simp only [Act.put, List.setIfInBounds_toArray, List.set_cons_succ, List.set_cons_zero]) | (with_reducible refine wpQuiet_load rfl 31 _ rfl _ rfl _ LY.out ?_; simp only [Act.put, List.setIfInBounds_toArray, List.set_cons_succ, List.set_cons_zero]) | (go_big_quiet_step (first | (with_reducible exact K3.out _))))
        refine wpQuiet_nil ?_
        rintro _ ⟨z, rfl⟩
        have HE := Lib.hid (HQ.out.trans (z.below.mono HQ.out.size))
        have R0 := Lib.hid (HROW.out.later z.below)
        obtain ⟨v2, A2, r2, k2, b2⟩ := push_key z.w V.heap.size ov now R0.out HE.out.size (by have := hlc.out; have := HK.out; omega) y HYO.out
        have L2 := Lib.hid (show (loadVar 31 (b.add (k * 25))).run Try.prog z.w = .ok (.agg (kyC y)) z.w from KyIn.load (HYA.out z.w HE.out))
        have HE2 := Lib.hid (HE.out.trans b2)
        have R2 := Lib.hid r2
        have KF := Lib.hid k2
        clear r2 k2 b2 LX LY K3
        go_wp2_with (first | (refine wpList_load_known rfl _ (.tmp 36) rfl _ rfl _ L2.out ?_) | (refine wpList_build_k1 rfl (.tmp 37) rfl y rfl ?_) | (at_builtin; refine wpList_append_runK rfl (.tmp 33) (.tmp 38) 22 rfl _ _ _ rfl rfl R2.out ?_))
        go_roundw
        case rel => exact ⟨k + 1, now ++ [y], true, rfl, by simp, by have := HKK.out; omega, by have := HK.out; simp; omega, by simp, KF.out, by
          have h := HPI.out _ _ _ HP.out
          rw [if_pos rfl, HD.out] at h
          unfold PutI
          rw [h, if_pos rfl]
          simp, HE2.out⟩
        case measure => have := HKK.out; simp [intOf]; omega
      · go_wp2_with fail
        refine wp_region_quietL (C := Grows w0) hmx (by kernel_rfl) (grows_refl w0) ?_
        repeat (first | (with_reducible refine wpQuiet_load rfl 31 _ rfl _ rfl _ LX.out ?_; simp only [Act.put, List.setIfInBounds_toArray, List.set_cons_succ, List.set_cons_zero]) | (with_reducible refine wpQuiet_load rfl 31 _ rfl _ rfl _ LY.out ?_; simp only [Act.put, List.setIfInBounds_toArray, List.set_cons_succ, List.set_cons_zero]) | (go_big_quiet_step (first | (with_reducible exact K3.out _))))
        refine wpQuiet_nil ?_
        rintro _ ⟨z, rfl⟩
        have HE := Lib.hid (HQ.out.trans (z.below.mono HQ.out.size))
        have R0 := Lib.hid (HROW.out.later z.below)
        obtain ⟨v2, A2, r2, k2, b2⟩ := push_key z.w V.heap.size ov now R0.out HE.out.size (by have := hlc.out; have := HK.out; omega) y HYO.out
        have L2 := Lib.hid (show (loadVar 31 (b.add (k * 25))).run Try.prog z.w = .ok (.agg (kyC y)) z.w from KyIn.load (HYA.out z.w HE.out))
        have HE2 := Lib.hid (HE.out.trans b2)
        have R2 := Lib.hid r2
        have KF := Lib.hid k2
        clear r2 k2 b2 LX LY K3
        go_wp2_with (first | (refine wpList_load_known rfl _ (.tmp 36) rfl _ rfl _ L2.out ?_) | (refine wpList_build_k1 rfl (.tmp 37) rfl y rfl ?_) | (at_builtin; refine wpList_append_runK rfl (.tmp 33) (.tmp 38) 22 rfl _ _ _ rfl rfl R2.out ?_))
        go_roundw
        case rel => exact ⟨k + 1, now ++ [y], false, rfl, by simp, by have := HKK.out; omega, by have := HK.out; simp; omega, (by intro _; have := HLF.out (by trivial); simp; omega), KF.out, by
          have h := HPI.out _ _ _ HP.out
          rw [if_neg (by decide), HD.out, HI.out, if_neg (by decide), if_neg (by decide)] at h
          unfold PutI
          rw [h, if_neg (by decide)]
          simp, HE2.out⟩
        case measure => have := HKK.out; simp [intOf]; omega
      · go_wp2_with fail
        refine wp_region_quietL (C := Grows w0) hmx (by kernel_rfl) (grows_refl w0) ?_
        repeat (first | (with_reducible refine wpQuiet_load rfl 31 _ rfl _ rfl _ LX.out ?_; simp only [Act.put, List.setIfInBounds_toArray, List.set_cons_succ, List.set_cons_zero]) | (with_reducible refine wpQuiet_load rfl 31 _ rfl _ rfl _ LY.out ?_; simp only [Act.put, List.setIfInBounds_toArray, List.set_cons_succ, List.set_cons_zero]) | (go_big_quiet_step (first | (with_reducible exact K3.out _))))
        refine wpQuiet_nil ?_
        rintro _ ⟨z, rfl⟩
        have HE := Lib.hid (HQ.out.trans (z.below.mono HQ.out.size))
        have R0 := Lib.hid (HROW.out.later z.below)
        obtain ⟨v2, A2, r2, k2, b2⟩ := push_key z.w V.heap.size ov now R0.out HE.out.size (by have := hlc.out; have := HK.out; omega) y HYO.out
        have L2 := Lib.hid (show (loadVar 31 (b.add (k * 25))).run Try.prog z.w = .ok (.agg (kyC y)) z.w from KyIn.load (HYA.out z.w HE.out))
        have HE2 := Lib.hid (HE.out.trans b2)
        have R2 := Lib.hid r2
        have KF := Lib.hid k2
        clear r2 k2 b2 LX LY K3
        go_wp2_with (first | (refine wpList_load_known rfl _ (.tmp 36) rfl _ rfl _ L2.out ?_) | (refine wpList_build_k1 rfl (.tmp 37) rfl y rfl ?_) | (at_builtin; refine wpList_append_runK rfl (.tmp 33) (.tmp 38) 22 rfl _ _ _ rfl rfl R2.out ?_))
        go_roundw
        case rel => exact ⟨k + 1, now ++ [y], true, rfl, by simp, by have := HKK.out; omega, by have := HK.out; simp; omega, by simp, KF.out, by
          have h := HPI.out _ _ _ HP.out
          rw [if_pos rfl, HD.out] at h
          unfold PutI
          rw [h, if_pos rfl]
          simp, HE2.out⟩
        case measure => have := HKK.out; simp [intOf]; omega
    · obtain rfl : k = n := by have := HK.out; omega
      have hnn : ¬ (k : Int) < (k : Int) := by omega
      have HDR := Lib.hid (show l.drop k = [] from List.drop_eq_nil_of_le (by have := HN.out; omega))
      cases d
      · obtain ⟨v1, A1, r1, k1, b1⟩ := push_key w0 V.heap.size ov now HROW.out HQ.out.size (by have := hlc.out; have := HK.out; omega) x HXO.out
        have L1 := Lib.hid (show (loadVar 31 ⟨W.heap.size, 0, none⟩).run Try.prog w0 = .ok (.agg (kyC x)) w0 from (HB.out.later HQ.out).kyLoad)
        have R1 := Lib.hid r1
        have E := Lib.hid (show insK x l = now ++ [x] by
          have h := HPI.out _ _ _ HP.out
          rw [if_neg (by decide), HDR.out] at h
          exact h)
        have KF := Lib.hid (show KRow A1 W.heap.size v1 (insK x l) from by rw [E.out]; exact k1.lower Q.out.size)
        have QF := Lib.hid (QW.out.trans (b1.mono Q.out.size))
        clear r1 k1 b1
        go_wp2_with (first | (refine wpList_load_known rfl _ (.tmp 3) rfl _ rfl _ L1.out ?_) | (refine wpList_build_k1 rfl (.tmp 43) rfl x rfl ?_) | (at_builtin; refine wpList_append_runK rfl (.tmp 42) (.tmp 44) 22 rfl _ _ _ rfl rfl R1.out ?_))
        go_ret
        exact ⟨_, rfl, KF.out, QF.out⟩
      · have E := Lib.hid (show insK x l = now by
          have h := HPI.out _ _ _ HP.out
          rw [if_pos rfl, HDR.out, List.append_nil] at h
          exact h)
        have KF := Lib.hid (show KRow w0 W.heap.size ov (insK x l) from by rw [E.out]; exact HROW.out.lower Q.out.size)
        go_wp2_with fail
        go_ret
        exact ⟨_, rfl, KF.out, QW.out⟩
end Go.Proofs.Ytbkgipggblphlaa

namespace Go.Proofs.Ytbkgipggblphlaa
open Go Go.RowKit
attribute [local go_sem] Oper.semAt_some Grows wide_fn

theorem setL_take_len (l : List Ky) : ∀ k, (setL (l.take k)).length ≤ k
  | 0 => by simp [setL]
  | k + 1 => by
    rw [List.take_add_one]
    have ih := setL_take_len l k
    cases h : l[k]? with
    | none => simp; omega
    | some x =>
      rw [Option.toList_some, setL_snoc]
      have := insK_len x (setL (l.take k))
      omega
theorem setL_ok {l : List Ky} (h : ∀ x ∈ l, KyOk x) : ∀ x ∈ setL l, KyOk x := fun x hx => h x (((foldK l [] List.Pairwise.nil).2 x).1 hx |>.resolve_left (by simp))
set_option maxRecDepth 100000 in
set_option maxHeartbeats 4000000 in
theorem rset_any (W : World) (sv : Value) (l : List Ky) (hs : KeysAt W sv l) (hl : l.length ≤ 9999) :
    Calls Try.prog 32 #[sv] W fun e w' => ∃ v', e = .returned v' ∧ KRow w' W.heap.size v' (setL l) ∧ Below W.heap.size W w' := by
  obtain ⟨a, cap, rfl, hnc, hcm⟩ := hs.shape
  have HS := Lib.hid hs
  obtain ⟨n, hn⟩ : ∃ n, l.length = n := ⟨_, rfl⟩
  rw [hn] at HS hnc hl ⊢
  have HN := Lib.hid hn
  have hlc := Lib.hid (And.intro hl (Nat.le_trans hnc hcm))
  have HT := Lib.hid (show setL (l.take n) = setL l by rw [List.take_of_length_le (by omega)])
  clear hs hnc hcm hn hl
  go_enter Try.func32, Try.ntmps32
  go_wp2_with fail
  go_loopw [3, 4] (fun ov i wr => ∃ k : Nat, i = .int .i64 (k : Int) ∧ k ≤ n ∧ KRow wr W.heap.size ov (setL (l.take k)) ∧ Below W.heap.size W wr) (fun _ i _ => n - (intOf i).toNat)
  case atStart => exact ⟨0, rfl, by omega, KRow.nil _ _, Below.refl _ _⟩
  case round =>
    obtain ⟨k, rfl, hkn, hrow, hq⟩ := hrel
    obtain ⟨ov, hov⟩ : ∃ ov, ov = u3 := ⟨_, rfl⟩
    subst hov
    have HQ := Lib.hid hq
    have HROW := Lib.hid hrow
    have HK := Lib.hid hkn
    clear hq hrow
    by_cases hk : k < n
    · have hknI : (k : Int) < (n : Int) := by omega
      have hk0 : (0 : Int) ≤ (k : Int) := by omega
      have hkb : (k : Int) ≤ 9223372036854775806 := by have := hlc.out; omega
      obtain ⟨y, hy⟩ : ∃ y, l[k]? = some y := ⟨_, List.getElem?_eq_getElem (by have := HN.out; omega)⟩
      obtain ⟨b, rfl, ay⟩ := (HS.out.later HQ.out).at hy
      have LY := Lib.hid ay.load
      have HX := Lib.hid (show setL (l.take (k + 1)) = insK y (setL (l.take k)) by
        rw [List.take_add_one, hy, Option.toList_some, setL_snoc])
      have PT := Lib.hid (rput_any wr ov (setL (l.take k)) y (HS.out.ok hy) (HROW.out.keys (setL_ok (fun x hx => HS.out.all x (List.mem_of_mem_take hx)))) (by have := setL_take_len l k; have := hlc.out; omega))
      have HKK := Lib.hid hk
      clear hk hkn ay hy
      go_wp2_with (first | (refine wpList_load_known rfl _ (.tmp 14) rfl _ rfl _ LY.out ?_) | fail)
      refine PT.out.mono ?_
      rintro _ w1 ⟨v1, rfl, h1, hb1⟩
      have R1 := Lib.hid (h1.lower HQ.out.size)
      have Q1 := Lib.hid (HQ.out.trans (hb1.mono HQ.out.size))
      clear h1 hb1 PT LY
      go_wp2_with fail
      go_roundw
      case rel => exact ⟨k + 1, by simp, by have := HKK.out; omega, by rw [HX.out]; exact R1.out, Q1.out⟩
      case measure => have := HKK.out; simp [intOf]; omega
    · obtain rfl : k = n := by have := HK.out; omega
      have hnn : ¬ (k : Int) < (k : Int) := by omega
      have R := Lib.hid (show KRow wr W.heap.size ov (setL l) from by have h := HROW.out; rw [HT.out] at h; exact h)
      go_wp2_with fail
      go_ret
      exact ⟨_, rfl, R.out, HQ.out⟩
end Go.Proofs.Ytbkgipggblphlaa
