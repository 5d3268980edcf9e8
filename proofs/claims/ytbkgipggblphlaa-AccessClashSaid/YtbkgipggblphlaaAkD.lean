/- Order of reference 10. Conditions: none. -/
import Derived.Test.YtbkgipggblphlaaAcM
import Derived.Test.YtbkgipggblphlaaAcE
import Derived.Test.YtbkgipggblphlaaRefC
namespace Go.Proofs.Ytbkgipggblphlaa
open Go Go.RowKit
attribute [local go_sem] Oper.semAt_some Grows wide_fn

theorem pre_eq {a b : Nat} (ha : a < 256 ^ 20) (hb : b < 256 ^ 20) : ∀ k : Nat, k ≤ 20 → (∀ j, j < k → adB a j = adB b j) → a / 256 ^ (20 - k) = b / 256 ^ (20 - k)
  | 0, _, _ => by rw [Nat.sub_zero, Nat.div_eq_of_lt ha, Nat.div_eq_of_lt hb]
  | k + 1, hk, h => by
    have ih := pre_eq ha hb k (by omega) (fun j hj => h j (by omega))
    have e := h k (by omega)
    unfold adB at e
    rw [show 20 - k = (19 - k) + 1 by omega, Nat.pow_succ, ← Nat.div_div_eq_div_mul, ← Nat.div_div_eq_div_mul] at ih
    rw [show 20 - (k + 1) = 19 - k by omega]
    generalize a / 256 ^ (19 - k) = x at *
    generalize b / 256 ^ (19 - k) = y at *
    omega
theorem pre_lt {a b : Nat} (ha : a < 256 ^ 20) (hb : b < 256 ^ 20) (k : Nat) (hk : k < 20) (h : ∀ j, j < k → adB a j = adB b j) (hl : adB a k < adB b k) : a < b := by
  have ih := pre_eq ha hb k (by omega) h
  unfold adB at hl
  rw [show 20 - k = (19 - k) + 1 by omega, Nat.pow_succ, ← Nat.div_div_eq_div_mul, ← Nat.div_div_eq_div_mul] at ih
  have hx : a / 256 ^ (19 - k) < b / 256 ^ (19 - k) := by
    generalize a / 256 ^ (19 - k) = x at *
    generalize b / 256 ^ (19 - k) = y at *
    omega
  rcases Nat.lt_or_ge a b with h | h
  · exact h
  · have := Nat.div_le_div_right (c := 256 ^ (19 - k)) h
    omega
theorem pre_same {a b : Nat} (ha : a < 256 ^ 20) (hb : b < 256 ^ 20) (h : ∀ j, j < 20 → adB a j = adB b j) : a = b := by
  have := pre_eq ha hb 20 (by omega) h
  simpa using this
theorem kcmp_first {a b : Ky} (ha : KyOk a) (hb : KyOk b) (k : Nat) (hk : k < 20) (h : ∀ j, j < k → adB a.at_ j = adB b.at_ j) (hl : adB a.at_ k < adB b.at_ k) : kcmp a b = -1 ∧ kcmp b a = 1 := by
  have h1 := pre_lt ha.at_ hb.at_ k hk h hl
  unfold kcmp acmp
  rw [if_pos h1, if_neg (by omega : ¬ b.at_ < a.at_), if_pos h1]
  exact ⟨by rw [if_neg (by decide)], by rw [if_neg (by decide)]⟩
set_option maxRecDepth 100000 in
set_option maxHeartbeats 4000000 in
theorem rkorder_any (W : World) (a b : Ky) (ha : KyOk a) (hb : KyOk b) :
    Calls Try.prog 10 #[.agg (kyC a), .agg (kyC b)] W fun e w' => e = .returned (.int .i64 (kcmp a b)) ∧ Below W.heap.size W w' := by
  have hmx : Try.prog.follows .mixedOrders = true := by kernel_rfl
  have K1 := (Has.new W 31 (kyC a)).alloc (.cells (kyC b) 31)
  have K2 := Has.new (W.alloc (.cells (kyC a) 31)) 31 (kyC b)
  simp only [World.size_alloc] at K2
  have q0 := ((Below.refl W.heap.size W).alloc (Nat.le_refl _) (.cells (kyC a) 31)).alloc (by simp) (.cells (kyC b) 31)
  obtain ⟨V, hV⟩ : ∃ V, (W.alloc (.cells (kyC a) 31)).alloc (.cells (kyC b) 31) = V := ⟨_, rfl⟩
  rw [hV] at K1 K2 q0
  have HW := Lib.hid (refCmp_ret a.key b.key ha.key hb.key)
  have HA := Lib.hid (fun (X : World) (hX : Below V.heap.size V X) => (K1.later hX).kyAd)
  have HB := Lib.hid (fun (X : World) (hX : Below V.heap.size V X) => (K2.later hX).kyAd)
  have CA := Lib.hid (fun (X : World) (hX : Below V.heap.size V X) => (K1.later hX).ky)
  have CB := Lib.hid (fun (X : World) (hX : Below V.heap.size V X) => (K2.later hX).ky)
  have Q := Lib.hid q0
  have FL := Lib.hid (fun k hk h hl => (kcmp_first ha hb k hk h hl).1)
  have FG := Lib.hid (fun k hk h hl => (kcmp_first hb ha k hk h hl).2)
  have FE := Lib.hid (fun h => pre_same ha.at_ hb.at_ h)
  obtain ⟨kv, hkv⟩ : ∃ kv, kcmp a b = kv := ⟨_, rfl⟩
  rw [hkv] at FL FG ⊢
  have HKV := Lib.hid hkv
  unfold wv at HW
  generalize kyC a = cs at *
  generalize kyC b = ds at *
  clear q0 K1 K2 ha hb hkv
  obtain ⟨na, sa, ka⟩ := a
  obtain ⟨nb, sb, kb⟩ := b
  simp only at CA CB HA HB HW FL FG FE
  go_enter Try.func10, Try.ntmps10
  go_wp2_with fail
  clear hV
  go_loopw [5] (fun i wr => ∃ k : Nat, i = .int .i64 (k : Int) ∧ k ≤ 20 ∧ (∀ j, j < k → adB na j = adB nb j) ∧ Below V.heap.size V wr) (fun i _ => 20 - (intOf i).toNat)
  case atStart => exact ⟨0, rfl, by omega, fun j hj => by omega, Below.refl _ _⟩
  case round =>
    obtain ⟨k, rfl, hk, hpre, hq⟩ := hrel
    have HP := Lib.hid hpre
    have HQ := Lib.hid hq
    have QW := Lib.hid (Q.out.trans (hq.mono Q.out.size))
    clear hpre hq
    by_cases hk20 : k < 20
    · have hkI : (k : Int) < 20 := by omega
      have hk0 : (0 : Int) ≤ (k : Int) := by omega
      have hab : adB na k < 256 := Nat.mod_lt _ (by decide)
      have hbb : adB nb k < 256 := Nat.mod_lt _ (by decide)
      have ca : ∀ z : Ext wr, z.w.cell? ⟨W.heap.size, k, none⟩ = some (.int .u8 ((adB na k : Nat) : Int)) := fun z => by
        have h := HA.out z.w (HQ.out.trans (z.below.mono HQ.out.size)) k hk20
        rwa [add_lit, Nat.zero_add] at h
      have cb : ∀ z : Ext wr, z.w.cell? ⟨W.heap.size + 1, k, none⟩ = some (.int .u8 ((adB nb k : Nat) : Int)) := fun z => by
        have h := HB.out z.w (HQ.out.trans (z.below.mono HQ.out.size)) k hk20
        rwa [add_lit, Nat.zero_add] at h
      have FLk := Lib.hid (fun h => FL.out k hk20 HP.out h)
      have FGk := Lib.hid (fun h => FG.out k hk20 (fun j hj => (HP.out j hj).symm) h)
      have HN := Lib.hid (fun (h : adB na k = adB nb k) => (show ∀ j, j < k + 1 → adB na j = adB nb j from fun j hj => by
        rcases Nat.lt_or_ge j k with h1 | h1
        · exact HP.out j h1
        · obtain rfl : j = k := by omega
          exact h))
      have HK := Lib.hid hk20
      clear hk
      generalize adB na k = x at *
      generalize adB nb k = y at *
      go_wp2_with fail
      refine wp_region_quietL (C := Grows wr) hmx (by kernel_rfl) (grows_refl wr) ?_
      repeat (go_big_quiet_step (fail))
      refine wpQuiet_nil ?_
      rintro _ ⟨z, rfl⟩
      have QZ := Lib.hid (QW.out.trans (z.below.mono QW.out.size))
      have HQZ := Lib.hid (HQ.out.trans (z.below.mono HQ.out.size))
      by_cases hlt : x < y
      · have hltI : (x : Int) < (y : Int) := by omega
        have e := FLk.out hlt
        go_wp2_with fail
        go_ret
        exact ⟨by rw [e]; rfl, QZ.out⟩
      · have hltI : ¬ (x : Int) < (y : Int) := by omega
        have ca2 : ∀ u : Ext z.w, u.w.cell? ⟨W.heap.size, k, none⟩ = some (.int .u8 (x : Int)) := fun u => ca ⟨u.1, z.2.trans (u.2.mono z.2.size)⟩
        have cb2 : ∀ u : Ext z.w, u.w.cell? ⟨W.heap.size + 1, k, none⟩ = some (.int .u8 (y : Int)) := fun u => cb ⟨u.1, z.2.trans (u.2.mono z.2.size)⟩
        clear ca cb
        go_wp2_with fail
        refine wp_region_quietL (C := Grows z.w) hmx (by kernel_rfl) (grows_refl z.w) ?_
        repeat (go_big_quiet_step (fail))
        refine wpQuiet_nil ?_
        rintro _ ⟨u, rfl⟩
        have QU := Lib.hid (QZ.out.trans (u.below.mono QZ.out.size))
        have HQU := Lib.hid (HQZ.out.trans (u.below.mono HQZ.out.size))
        by_cases hgt : y < x
        · have hgtI : (y : Int) < (x : Int) := by omega
          have e := FGk.out hgt
          go_wp2_with fail
          go_ret
          exact ⟨by rw [e]; rfl, QU.out⟩
        · have hgtI : ¬ (y : Int) < (x : Int) := by omega
          have hxy : x = y := by omega
          have HNN := Lib.hid (HN.out hxy)
          clear hxy
          go_wp2_with fail
          go_roundw
          case rel => exact ⟨k + 1, by simp, by have := HK.out; omega, HNN.out, HQU.out⟩
          case measure => have := HK.out; simp [intOf]; omega
    · obtain rfl : k = 20 := by omega
      have h20 : ¬ ((20 : Nat) : Int) < 20 := by omega
      have hn := FE.out HP.out
      subst hn
      have hkv := HKV.out
      unfold kcmp at hkv
      rw [if_pos ((acmp_zero _ _).2 rfl)] at hkv
      simp only at hkv
      have HK := Lib.hid hkv
      obtain ⟨a0, a1, a2, a3, a4⟩ := CA.out wr HQ.out
      obtain ⟨b0, b1, b2, b3, b4⟩ := CB.out wr HQ.out
      clear hkv hk20 hk
      cases sa <;> cases sb
      · go_wp2_with fail
        refine (HW.out _).mono ?_
        rintro e w1 ⟨rfl, hb1⟩
        have QF := Lib.hid (QW.out.trans (hb1.mono QW.out.size))
        go_wp2_with fail
        go_ret
        exact ⟨by rw [← HK.out]; rfl, QF.out⟩
      · go_wp2_with fail
        go_ret
        exact ⟨by rw [← HK.out]; rfl, QW.out⟩
      · go_wp2_with fail
        go_ret
        exact ⟨by rw [← HK.out]; rfl, QW.out⟩
      · go_wp2_with fail
        refine (HW.out _).mono ?_
        rintro e w1 ⟨rfl, hb1⟩
        have QF := Lib.hid (QW.out.trans (hb1.mono QW.out.size))
        go_wp2_with fail
        go_ret
        exact ⟨by rw [← HK.out]; rfl, QF.out⟩
/-- may of reference 10: a slot's key, or the key nought. -/
theorem rmay_any (W : World) (a : Ky) (ha : KyOk a) : Calls Try.prog 31 #[.agg (kyC a)] W fun e w' => e = .returned (.bool (a.slot || decide (a.key = 0))) ∧ Below W.heap.size W w' := by
  have K1 := Has.new W 31 (kyC a)
  have q0 := (Below.refl W.heap.size W).alloc (Nat.le_refl _) (.cells (kyC a) 31)
  obtain ⟨V, hV⟩ : ∃ V, W.alloc (.cells (kyC a) 31) = V := ⟨_, rfl⟩
  rw [hV] at K1 q0
  obtain ⟨a0, a1, a2, a3, a4⟩ := K1.ky
  have Q := Lib.hid q0
  have hz := eqv_k a.key 0 ha.key (by unfold W256; omega)
  have l0 : lim 0 0 = 0 := by kernel_rfl
  have l1 : lim 0 1 = 0 := by kernel_rfl
  have l2 : lim 0 2 = 0 := by kernel_rfl
  have l3 : lim 0 3 = 0 := by kernel_rfl
  rw [l0, l1, l2, l3] at hz
  have HZ := Lib.hid hz
  have E := fun w => eq4k 9998 (lim a.key 0) (lim a.key 1) (lim a.key 2) (lim a.key 3) 0 0 0 0 w
  simp only [Nat.reduceAdd] at E
  generalize kyC a = cs at *
  clear K1 q0 ha hz l0 l1 l2 l3
  obtain ⟨na, sa, ka⟩ := a
  simp only at a0 a1 a2 a3 a4 E HZ ⊢
  generalize lim ka 0 = l0 at *
  generalize lim ka 1 = l1 at *
  generalize lim ka 2 = l2 at *
  generalize lim ka 3 = l3 at *
  obtain ⟨r, hr⟩ : ∃ r, decide (ka = 0) = r := ⟨_, rfl⟩
  rw [hr] at HZ ⊢
  clear hr
  obtain ⟨q, hq⟩ : ∃ q, (l0 == 0 && l1 == 0 && l2 == 0 && l3 == 0) = q := ⟨_, rfl⟩
  rw [hq] at HZ E
  have HR := Lib.hid HZ.out
  cases sa
  · go_enter Try.func31, Try.ntmps31
    go_wp2_with fail
    go_ret
    exact ⟨by rw [Bool.false_or, ← HR.out]; rfl, Q.out⟩
  · go_enter Try.func31, Try.ntmps31
    go_wp2_with fail
    go_ret
    exact ⟨rfl, Q.out⟩
end Go.Proofs.Ytbkgipggblphlaa
