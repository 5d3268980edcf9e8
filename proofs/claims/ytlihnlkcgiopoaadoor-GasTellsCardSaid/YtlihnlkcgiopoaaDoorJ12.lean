/- Part. -/
import Derived.Test.YtlihnlkcgiopoaaDoorJ08
import Derived.Test.YtlihnlkcgiopoaaDoorJ09
import Derived.Test.YtlihnlkcgiopoaaDoorJ06
import Derived.Test.YtlihnlkcgiopoaaDoorJ11
import Derived.Test.YtlihnlkcgiopoaaDoorJ10
import Derived.Test.YtlihnlkcgiopoaaDoorRows
import Derived.ProofKit
import Derived.LaidMore
import Derived.OpenShut
import Derived.Stop.Joined
import Derived.ChangeSame
import Derived.Below
import Derived.Laws.IdiomArrays
import Derived.Test.YtlihnlkcgiopoaaDoorJ04
import Derived.Deep.Slices
import Derived.ReadAgain
import Derived.Carry
set_option maxRecDepth 100000
set_option maxHeartbeats 16000000
namespace Go.Proofs.YtlihnlkcgiopoaaDoor
section
open Go Go.RowKit
attribute [local go_sem] Oper.semAt_some Grows wide_fn
theorem pre_eq {a b : Nat} (ha : a < 256 ^ 20) (hb : b < 256 ^ 20) : ∀ k : Nat, k ≤ 20 → (∀ j, j < k → adB a j = adB b j) → a / 256 ^ (20 - k) = b / 256 ^ (20 - k)
 | 0, _, _ => by rw [Nat.sub_zero, Nat.div_eq_of_lt ha, Nat.div_eq_of_lt hb]
 | k + 1, hk, h => by
  have ih := pre_eq ha hb k (by omega) (fun j hj => h j (by omega))
  have e := h k (by omega)
  unfold adB at e
  rw [show 20 - k = (19 - k) + 1 by omega, Nat.pow_succ, ← Nat.div_div_eq_div_mul, ← Nat.div_div_eq_div_mul] at ih
  rw [show 20 - (k + 1) = 19 - k by omega]
  generalize a / 256 ^ (19 - k) = x at *
  generalize b / 256 ^ (19 - k) = y at *
  omega
theorem pre_lt {a b : Nat} (ha : a < 256 ^ 20) (hb : b < 256 ^ 20) (k : Nat) (hk : k < 20) (h : ∀ j, j < k → adB a j = adB b j) (hl : adB a k < adB b k) : a < b := by
 have ih := pre_eq ha hb k (by omega) h
 unfold adB at hl
 rw [show 20 - k = (19 - k) + 1 by omega, Nat.pow_succ, ← Nat.div_div_eq_div_mul, ← Nat.div_div_eq_div_mul] at ih
 have hx : a / 256 ^ (19 - k) < b / 256 ^ (19 - k) := by
  generalize a / 256 ^ (19 - k) = x at *
  generalize b / 256 ^ (19 - k) = y at *
  omega
 rcases Nat.lt_or_ge a b with h | h
 ·exact h
 ·have := Nat.div_le_div_right (c := 256 ^ (19 - k)) h
  omega
theorem pre_same {a b : Nat} (ha : a < 256 ^ 20) (hb : b < 256 ^ 20) (h : ∀ j, j < 20 → adB a j = adB b j) : a = b := by
 have := pre_eq ha hb 20 (by omega) h
 simpa using this
theorem kcmp_first {a b : Ky} (ha : KyOk a) (hb : KyOk b) (k : Nat) (hk : k < 20) (h : ∀ j, j < k → adB a.at_ j = adB b.at_ j) (hl : adB a.at_ k < adB b.at_ k) : kcmp a b = -1 ∧ kcmp b a = 1 := by
 have h1 := pre_lt ha.at_ hb.at_ k hk h hl
 unfold kcmp acmp
 rw [if_pos h1, if_neg (by omega : ¬ b.at_ < a.at_), if_pos h1]
 exact ⟨by rw [if_neg (by decide)], by rw [if_neg (by decide)]⟩
theorem rkorder_any (W : World) (a b : Ky) (ha : KyOk a) (hb : KyOk b) :
  Calls Tryd.prog 89 #[.agg (kyC a), .agg (kyC b)] W fun e w' => e = .returned (.int .i64 (kcmp a b)) ∧ Below W.heap.size W w' := by
 have hmx : Tryd.prog.follows .mixedOrders = true := by kernel_rfl
 have K1 := (Has.new W 58 (kyC a)).alloc (.cells (kyC b) 58)
 have K2 := Has.new (W.alloc (.cells (kyC a) 58)) 58 (kyC b)
 simp only [World.size_alloc] at K2
 have q0 := (newA W (.cells (kyC a) 58)).alloc (by simp) (.cells (kyC b) 58)
 obtain ⟨V, hV⟩ : ∃ V, (W.alloc (.cells (kyC a) 58)).alloc (.cells (kyC b) 58) = V := ⟨_, rfl⟩
 rw [hV] at K1 K2 q0
 have HW := hid (refCmp_ret a.key b.key ha.key hb.key)
 have HA := hid (fun (X : World) (hX : Below V.heap.size V X) => (K1.later hX).kyAd)
 have HB := hid (fun (X : World) (hX : Below V.heap.size V X) => (K2.later hX).kyAd)
 have CA := hid (fun (X : World) (hX : Below V.heap.size V X) => (K1.later hX).ky)
 have CB := hid (fun (X : World) (hX : Below V.heap.size V X) => (K2.later hX).ky)
 have Q := hid q0
 have FL := hid (fun k hk h hl => (kcmp_first ha hb k hk h hl).1)
 have FG := hid (fun k hk h hl => (kcmp_first hb ha k hk h hl).2)
 have FE := hid (fun h => pre_same ha.at_ hb.at_ h)
 obtain ⟨kv, hkv⟩ : ∃ kv, kcmp a b = kv := ⟨_, rfl⟩
 rw [hkv] at FL FG ⊢
 have HKV := hid hkv
 unfold wv at HW
 generalize kyC a = cs at *
 generalize kyC b = ds at *
 clear q0 K1 K2 ha hb hkv
 obtain ⟨na, sa, ka⟩ := a
 obtain ⟨nb, sb, kb⟩ := b
 simp only at CA CB HA HB HW FL FG FE
 go_enter Tryd.func89, Tryd.ntmps89
 go_wp2_with fail
 clear hV
 go_loopw [5] (fun i wr => ∃ k : Nat, i = .int .i64 (k : Int) ∧ k ≤ 20 ∧ (∀ j, j < k → adB na j = adB nb j) ∧ Below V.heap.size V wr) (fun i _ => 20 - (intOf i).toNat)
 case atStart => exact ⟨0, rfl, by omega, fun j hj => by omega, Below.refl _ _⟩
 case round =>
  obtain ⟨k, rfl, hk, hpre, hq⟩ := hrel
  have HP := hid hpre
  have HQ := hid hq
  have QW := hid (Q.out.trans (hq.mono Q.out.size))
  clear hpre hq
  by_cases hk20 : k < 20
  ·have hkI : (k : Int) < 20 := by omega
   have hk0 : (0 : Int) ≤ (k : Int) := by omega
   have hab : adB na k < 256 := Nat.mod_lt _ (by decide)
   have hbb : adB nb k < 256 := Nat.mod_lt _ (by decide)
   have ca : ∀ z : Ext wr, z.w.cell? ⟨W.heap.size, k, none⟩ = some (.int .u8 ((adB na k : Nat) : Int)) := fun z => by
    have h := HA.out z.w (HQ.out.trans (z.below.mono HQ.out.size)) k hk20
    rwa [add_lit, Nat.zero_add] at h
   have cb : ∀ z : Ext wr, z.w.cell? ⟨W.heap.size + 1, k, none⟩ = some (.int .u8 ((adB nb k : Nat) : Int)) := fun z => by
    have h := HB.out z.w (HQ.out.trans (z.below.mono HQ.out.size)) k hk20
    rwa [add_lit, Nat.zero_add] at h
   have FLk := hid (fun h => FL.out k hk20 HP.out h)
   have FGk := hid (fun h => FG.out k hk20 (fun j hj => (HP.out j hj).symm) h)
   have HN := hid (fun (h : adB na k = adB nb k) => (show ∀ j, j < k + 1 → adB na j = adB nb j from fun j hj => by
    rcases Nat.lt_or_ge j k with h1 | h1
    ·exact HP.out j h1
    ·obtain rfl : j = k := by omega
     exact h))
   have HK := hid hk20
   clear hk
   generalize adB na k = x at *
   generalize adB nb k = y at *
   go_wp2_with fail
   refine wp_region_quietL (C := Grows wr) hmx (by kernel_rfl) (grows_refl wr) ?_
   repeat (go_big_quiet_step (fail))
   refine wpQuiet_nil ?_
   rintro _ ⟨z, rfl⟩
   have QZ := hid (QW.out.trans (z.below.mono QW.out.size))
   have HQZ := hid (HQ.out.trans (z.below.mono HQ.out.size))
   by_cases hlt : x < y
   ·have hltI : (x : Int) < (y : Int) := by omega
    have e := FLk.out hlt
    go_wp2_with fail
    go_ret
    exact ⟨by rw [e]; rfl, QZ.out⟩
   ·have hltI : ¬ (x : Int) < (y : Int) := by omega
    have ca2 : ∀ u : Ext z.w, u.w.cell? ⟨W.heap.size, k, none⟩ = some (.int .u8 (x : Int)) := fun u => ca ⟨u.1, z.2.trans (u.2.mono z.2.size)⟩
    have cb2 : ∀ u : Ext z.w, u.w.cell? ⟨W.heap.size + 1, k, none⟩ = some (.int .u8 (y : Int)) := fun u => cb ⟨u.1, z.2.trans (u.2.mono z.2.size)⟩
    clear ca cb
    go_wp2_with fail
    refine wp_region_quietL (C := Grows z.w) hmx (by kernel_rfl) (grows_refl z.w) ?_
    repeat (go_big_quiet_step (fail))
    refine wpQuiet_nil ?_
    rintro _ ⟨u, rfl⟩
    have QU := hid (QZ.out.trans (u.below.mono QZ.out.size))
    have HQU := hid (HQZ.out.trans (u.below.mono HQZ.out.size))
    by_cases hgt : y < x
    ·have hgtI : (y : Int) < (x : Int) := by omega
     have e := FGk.out hgt
     go_wp2_with fail
     go_ret
     exact ⟨by rw [e]; rfl, QU.out⟩
    ·have hgtI : ¬ (y : Int) < (x : Int) := by omega
     have hxy : x = y := by omega
     have HNN := hid (HN.out hxy)
     clear hxy
     go_wp2_with fail
     go_roundw
     case rel => exact ⟨k + 1, by simp, by have := HK.out; omega, HNN.out, HQU.out⟩
     case measure => have := HK.out; simp [intOf]; omega
  ·obtain rfl : k = 20 := by omega
   have h20 : ¬ ((20 : Nat) : Int) < 20 := by omega
   have hn := FE.out HP.out
   subst hn
   have hkv := HKV.out
   unfold kcmp at hkv
   rw [if_pos ((acmp_zero _ _).2 rfl)] at hkv
   simp only at hkv
   have HK := hid hkv
   obtain ⟨a0, a1, a2, a3, a4⟩ := CA.out wr HQ.out
   obtain ⟨b0, b1, b2, b3, b4⟩ := CB.out wr HQ.out
   clear hkv hk20 hk
   cases sa <;> cases sb
   ·go_wp2_with fail
    refine (HW.out _).mono ?_
    rintro e w1 ⟨rfl, hb1⟩
    have QF := hid (QW.out.trans (hb1.mono QW.out.size))
    go_wp2_with fail
    go_ret
    exact ⟨by rw [← HK.out]; rfl, QF.out⟩
   ·go_wp2_with fail
    go_ret
    exact ⟨by rw [← HK.out]; rfl, QW.out⟩
   ·go_wp2_with fail
    go_ret
    exact ⟨by rw [← HK.out]; rfl, QW.out⟩
   ·go_wp2_with fail
    refine (HW.out _).mono ?_
    rintro e w1 ⟨rfl, hb1⟩
    have QF := hid (QW.out.trans (hb1.mono QW.out.size))
    go_wp2_with fail
    go_ret
    exact ⟨by rw [← HK.out]; rfl, QF.out⟩
theorem rmay_any (W : World) (a : Ky) (ha : KyOk a) : Calls Tryd.prog 66 #[.agg (kyC a)] W fun e w' => e = .returned (.bool (a.slot || decide (a.key = 0))) ∧ Below W.heap.size W w' := by
 have K1 := Has.new W 58 (kyC a)
 have q0 := newA W (.cells (kyC a) 58)
 obtain ⟨V, hV⟩ : ∃ V, W.alloc (.cells (kyC a) 58) = V := ⟨_, rfl⟩
 rw [hV] at K1 q0
 obtain ⟨a0, a1, a2, a3, a4⟩ := K1.ky
 have Q := hid q0
 have hz := eqv_k a.key 0 ha.key (by unfold W256; omega)
 have l0 : lim 0 0 = 0 := by kernel_rfl
 have l1 : lim 0 1 = 0 := by kernel_rfl
 have l2 : lim 0 2 = 0 := by kernel_rfl
 have l3 : lim 0 3 = 0 := by kernel_rfl
 rw [l0, l1, l2, l3] at hz
 have HZ := hid hz
 have E := fun w => eq4k 9998 (lim a.key 0) (lim a.key 1) (lim a.key 2) (lim a.key 3) 0 0 0 0 w
 simp only [Nat.reduceAdd] at E
 generalize kyC a = cs at *
 clear K1 q0 ha hz l0 l1 l2 l3
 obtain ⟨na, sa, ka⟩ := a
 simp only at a0 a1 a2 a3 a4 E HZ ⊢
 generalize lim ka 0 = l0 at *
 generalize lim ka 1 = l1 at *
 generalize lim ka 2 = l2 at *
 generalize lim ka 3 = l3 at *
 obtain ⟨r, hr⟩ : ∃ r, decide (ka = 0) = r := ⟨_, rfl⟩
 rw [hr] at HZ ⊢
 clear hr
 obtain ⟨q, hq⟩ : ∃ q, (l0 == 0 && l1 == 0 && l2 == 0 && l3 == 0) = q := ⟨_, rfl⟩
 rw [hq] at HZ E
 have HR := hid HZ.out
 cases sa
 ·go_enter Tryd.func66, Tryd.ntmps66
  go_wp2_with fail
  go_ret
  exact ⟨by rw [Bool.false_or, ← HR.out]; rfl, Q.out⟩
 ·go_enter Tryd.func66, Tryd.ntmps66
  go_wp2_with fail
  go_ret
  exact ⟨rfl, Q.out⟩
end
section
open Go Go.RowKit
attribute [local go_sem] Oper.semAt_some Grows wide_fn
theorem KRow.lower {W : World} {base low : Nat} {v : Value} {l : List Ky} (h : KRow W base v l) (hl : low ≤ base) : KRow W low v l := by
 unfold KRow World.ownsRow at h ⊢
 refine ⟨h.1, ?_⟩
 rcases h.2 with h | ⟨g, cap, cur, e, hb, hr⟩
 ·exact .inl h
 ·exact .inr ⟨g, cap, cur, e, Nat.le_trans hl hb, hr⟩
theorem push_key (A : World) (base : Nat) (v : Value) (l : List Ky) (h : KRow A base v l) (hb : base ≤ A.heap.size) (hl : l.length ≤ 99999) (y : Ky) (hy : KyOk y) :
  ∃ v' w', (Builtin.append_ #[28, 28] 28 #[v, .slice (some ⟨A.heap.size, 0, none⟩) 1 1]).run Tryd.prog (A.alloc (.cells (flatKy [y]).toArray 58)) = .ok v' w' ∧ KRow w' base v' (l ++ [y]) ∧ Below base A w' := by
 have hm := keys_made A [y] (by intro z hz; simp at hz; subst hz; exact hy) (by simp)
 have qa := newA A (.cells (flatKy [y]).toArray 58)
 obtain ⟨v', w', h1, h2, _, h4⟩ := append_keys _ base v l (h.later qa) (Nat.le_trans hb qa.size) _ [y] hm (by simp; omega)
 exact ⟨v', w', h1, h2, (qa.mono hb).trans h4⟩
def PutJ (x : Ky) (l : List Ky) (k : Nat) (now : List Ky) (d : Bool) : Prop := insK x l = now ++ (if d = true then l.drop k else insK x (l.drop k))
theorem rput_any (W : World) (sv : Value) (l : List Ky) (x : Ky) (hxo : KyOk x) (hs : KeysAt W sv l) (hl : l.length ≤ 9999) :
  Calls Tryd.prog 81 #[sv, .agg (kyC x)] W fun e w' => ∃ v', e = .returned v' ∧ KRow w' W.heap.size v' (insK x l) ∧ Below W.heap.size W w' := by
 have hmx : Tryd.prog.follows .mixedOrders = true := by kernel_rfl
 have hB := Has.new W 58 (kyC x)
 have hq0 := newA W (.cells (kyC x) 58)
 obtain ⟨V, hV⟩ : ∃ V, W.alloc (.cells (kyC x) 58) = V := ⟨_, rfl⟩
 rw [hV] at hB hq0
 obtain ⟨a, cap, rfl, hnc, hcm⟩ := hs.shape
 have HS := hid (hs.later hq0)
 have HB := hid hB
 have Q := hid hq0
 obtain ⟨n, hn⟩ : ∃ n, l.length = n := ⟨_, rfl⟩
 rw [hn] at HS hnc hl ⊢
 have HN := hid hn
 have hlc := hid (And.intro hl (Nat.le_trans hnc hcm))
 have HXO := hid hxo
 have HPI := hid (show ∀ k now d, PutJ x l k now d → insK x l = now ++ (if d = true then l.drop k else insK x (l.drop k)) from fun _ _ _ h => h)
 clear hB hq0 hs hnc hcm hn hl hxo
 go_enter Tryd.func81, Tryd.ntmps81
 go_wp2_with fail
 clear hV
 go_loopw [5, 6, 7] (fun ov dn i wr => ∃ (k : Nat) (now : List Ky) (d : Bool), dn = .bool d ∧ i = .int .i64 (k : Int) ∧ k ≤ n ∧ now.length ≤ k + 1 ∧ (d = false → now.length ≤ k) ∧ KRow wr V.heap.size ov now ∧ PutJ x l k now d ∧ Below V.heap.size V wr) (fun _ _ i _ => n - (intOf i).toNat)
 case atStart => exact ⟨0, [], false, rfl, rfl, by omega, by simp, by simp, KRow.nil _ _, rfl, Below.refl _ _⟩
 case round =>
  obtain ⟨k, now, d, rfl, rfl, hkn, hlen, hlf, hrow, hpi, hq⟩ := hrel
  obtain ⟨ov, hov⟩ : ∃ ov, ov = u5 := ⟨_, rfl⟩
  subst hov
  obtain ⟨w0, hw0⟩ : ∃ w0, w0 = wr := ⟨_, rfl⟩
  subst hw0
  have HQ := hid hq
  have HROW := hid hrow
  have HK := hid (And.intro hkn hlen)
  have HLF := hid hlf
  have HP := hid hpi
  have QW := hid (Q.out.trans (hq.mono Q.out.size))
  clear hq hrow hpi hlen hlf
  by_cases hk : k < n
  ·have hknI : (k : Int) < (n : Int) := by omega
   have hk0 : (0 : Int) ≤ (k : Int) := by omega
   have hkb : (k : Int) ≤ 9223372036854775806 := by have := hlc.out; omega
   obtain ⟨y, hy⟩ : ∃ y, l[k]? = some y := ⟨_, List.getElem?_eq_getElem (by have := HN.out; omega)⟩
   obtain ⟨b, rfl, ay⟩ := (HS.out.later HQ.out).at hy
   have HYA := hid (fun (X : World) (hX : Below V.heap.size V X) => (show KyIn X (b.add (k * 25)) y from by
    obtain ⟨b', e, h⟩ := (HS.out.later hX).at hy
    injection e with e
    subst e
    exact h))
   have HYO := hid (HS.out.ok hy)
   have HD := hid (show l.drop k = y :: l.drop (k + 1) by
    obtain ⟨h1, h2⟩ := List.getElem?_eq_some_iff.1 hy
    rw [List.drop_eq_getElem_cons h1, h2])
   have LX := hid (show ∀ z : World, Grows w0 z → (loadVar 58 ⟨W.heap.size, 0, none⟩).run Tryd.prog z = .ok (.agg (kyC x)) z from fun z hz => by obtain ⟨q, rfl⟩ := hz; exact ((HB.out.later HQ.out).later q.below).kyLoad)
   have LY := hid (show ∀ z : World, Grows w0 z → (loadVar 58 (b.add (k * 25))).run Tryd.prog z = .ok (.agg (kyC y)) z from fun z hz => by obtain ⟨q, rfl⟩ := hz; exact (ay.later q.below).load)
   have K3 := hid (fun z : Ext w0 => Ext.atK (rkorder_any z.w x y HXO.out (HS.out.ok hy)))
   have hc : kcmp x y = -1 ∨ kcmp x y = 0 ∨ kcmp x y = 1 := by
    rcases kcmp_tri x y with ⟨_, e⟩ | ⟨_, e⟩ | ⟨_, e⟩
    ·exact .inl e
    ·exact .inr (.inl e)
    ·exact .inr (.inr e)
   have HI := hid (show ∀ c, kcmp x y = c → insK x (y :: l.drop (k + 1)) = if c < 0 then x :: y :: l.drop (k + 1) else if c = 0 then y :: l.drop (k + 1) else y :: insK x (l.drop (k + 1)) from fun c h => by subst h; rfl)
   have HKK := hid hk
   clear hk hkn ay hy
   obtain ⟨c, hcc⟩ : ∃ c, kcmp x y = c := ⟨_, rfl⟩
   replace HI := hid (HI.out c hcc)
   rw [hcc] at K3 hc
   clear hcc
   rcases hc with rfl | rfl | rfl <;> cases d
   ·go_wp2_with fail
    refine wp_region_quietL (C := Grows w0) hmx (by kernel_rfl) (grows_refl w0) ?_
    repeat (first | (with_reducible refine wpQuiet_load rfl 58 _ rfl _ rfl _ LX.out ?_; simp only [Act.put, sT, sS, sZ]) | (with_reducible refine wpQuiet_load rfl 58 _ rfl _ rfl _ LY.out ?_; simp only [Act.put, sT, sS, sZ]) | (go_big_quiet_step (first | (with_reducible exact K3.out _))))
    refine wpQuiet_nil ?_
    rintro _ ⟨z, rfl⟩
    have HE := hid (HQ.out.trans (z.below.mono HQ.out.size))
    have R0 := hid (HROW.out.later z.below)
    obtain ⟨v1, A1, r1, k1, b1⟩ := push_key z.w V.heap.size ov now R0.out HE.out.size (by have := hlc.out; have := HK.out; omega) x HXO.out
    have HE1 := hid (HE.out.trans b1)
    obtain ⟨v2, A2, r2, k2, b2⟩ := push_key A1 V.heap.size v1 (now ++ [x]) k1 HE1.out.size (by have := hlc.out; have := HK.out; simp; omega) y HYO.out
    have L1 := hid (show (loadVar 58 ⟨W.heap.size, 0, none⟩).run Tryd.prog z.w = .ok (.agg (kyC x)) z.w from (HB.out.later HE.out).kyLoad)
    have L2 := hid (show (loadVar 58 (b.add (k * 25))).run Tryd.prog A1 = .ok (.agg (kyC y)) A1 from KyIn.load (HYA.out A1 HE1.out))
    have HE2 := hid (HE1.out.trans b2)
    have R1 := hid r1
    have R2 := hid r2
    have KF := hid k2
    clear r1 r2 k1 k2 b1 b2 LX LY K3
    go_wp2_with (first | (refine wpList_load_known rfl _ (.tmp 3) rfl _ rfl _ L1.out ?_) | (refine wpList_load_known rfl _ (.tmp 36) rfl _ rfl _ L2.out ?_) | (refine wpList_build_k1 rfl (.tmp 30) rfl x rfl ?_) | (refine wpList_build_k1 rfl (.tmp 37) rfl y rfl ?_) | (at_builtin; refine wpList_append_runK rfl (.tmp 29) (.tmp 31) 28 rfl _ _ _ rfl rfl R1.out ?_) | (at_builtin; refine wpList_append_runK rfl (.tmp 33) (.tmp 38) 28 rfl _ _ _ rfl rfl R2.out ?_))
    go_roundw
    case rel => exact ⟨k + 1, now ++ [x] ++ [y], true, rfl, by simp, by have := HKK.out; omega, by have := HLF.out (by trivial); simp; omega, by simp, KF.out, by
     have h := HPI.out _ _ _ HP.out
     rw [if_neg (by decide), HD.out, HI.out, if_pos (by decide)] at h
     unfold PutJ
     rw [h, if_pos rfl]
     simp, HE2.out⟩
    case measure => have := HKK.out; simp [intOf]; omega
   ·go_wp2_with fail
    refine wp_region_quietL (C := Grows w0) hmx (by kernel_rfl) (grows_refl w0) ?_
    repeat (first | (with_reducible refine wpQuiet_load rfl 58 _ rfl _ rfl _ LX.out ?_; simp only [Act.put, sT, sS, sZ]) | (with_reducible refine wpQuiet_load rfl 58 _ rfl _ rfl _ LY.out ?_; simp only [Act.put, sT, sS, sZ]) | (go_big_quiet_step (first | (with_reducible exact K3.out _))))
    refine wpQuiet_nil ?_
    rintro _ ⟨z, rfl⟩
    have HE := hid (HQ.out.trans (z.below.mono HQ.out.size))
    have R0 := hid (HROW.out.later z.below)
    obtain ⟨v2, A2, r2, k2, b2⟩ := push_key z.w V.heap.size ov now R0.out HE.out.size (by have := hlc.out; have := HK.out; omega) y HYO.out
    have L2 := hid (show (loadVar 58 (b.add (k * 25))).run Tryd.prog z.w = .ok (.agg (kyC y)) z.w from KyIn.load (HYA.out z.w HE.out))
    have HE2 := hid (HE.out.trans b2)
    have R2 := hid r2
    have KF := hid k2
    clear r2 k2 b2 LX LY K3
    go_wp2_with (first | (refine wpList_load_known rfl _ (.tmp 36) rfl _ rfl _ L2.out ?_) | (refine wpList_build_k1 rfl (.tmp 37) rfl y rfl ?_) | (at_builtin; refine wpList_append_runK rfl (.tmp 33) (.tmp 38) 28 rfl _ _ _ rfl rfl R2.out ?_))
    go_roundw
    case rel => exact ⟨k + 1, now ++ [y], true, rfl, by simp, by have := HKK.out; omega, by have := HK.out; simp; omega, by simp, KF.out, by
     have h := HPI.out _ _ _ HP.out
     rw [if_pos rfl, HD.out] at h
     unfold PutJ
     rw [h, if_pos rfl]
     simp, HE2.out⟩
    case measure => have := HKK.out; simp [intOf]; omega
   ·go_wp2_with fail
    refine wp_region_quietL (C := Grows w0) hmx (by kernel_rfl) (grows_refl w0) ?_
    repeat (first | (with_reducible refine wpQuiet_load rfl 58 _ rfl _ rfl _ LX.out ?_; simp only [Act.put, sT, sS, sZ]) | (with_reducible refine wpQuiet_load rfl 58 _ rfl _ rfl _ LY.out ?_; simp only [Act.put, sT, sS, sZ]) | (go_big_quiet_step (first | (with_reducible exact K3.out _))))
    refine wpQuiet_nil ?_
    rintro _ ⟨z, rfl⟩
    have HE := hid (HQ.out.trans (z.below.mono HQ.out.size))
    have R0 := hid (HROW.out.later z.below)
    obtain ⟨v2, A2, r2, k2, b2⟩ := push_key z.w V.heap.size ov now R0.out HE.out.size (by have := hlc.out; have := HK.out; omega) y HYO.out
    have L2 := hid (show (loadVar 58 (b.add (k * 25))).run Tryd.prog z.w = .ok (.agg (kyC y)) z.w from KyIn.load (HYA.out z.w HE.out))
    have HE2 := hid (HE.out.trans b2)
    have R2 := hid r2
    have KF := hid k2
    clear r2 k2 b2 LX LY K3
    go_wp2_with (first | (refine wpList_load_known rfl _ (.tmp 36) rfl _ rfl _ L2.out ?_) | (refine wpList_build_k1 rfl (.tmp 37) rfl y rfl ?_) | (at_builtin; refine wpList_append_runK rfl (.tmp 33) (.tmp 38) 28 rfl _ _ _ rfl rfl R2.out ?_))
    go_roundw
    case rel => exact ⟨k + 1, now ++ [y], true, rfl, by simp, by have := HKK.out; omega, by have := HK.out; simp; omega, by simp, KF.out, by
     have h := HPI.out _ _ _ HP.out
     rw [if_neg (by decide), HD.out, HI.out, if_neg (by decide)] at h
     first | rw [if_pos rfl] at h | rw [if_pos trivial] at h
     unfold PutJ
     rw [h, if_pos rfl]
     simp, HE2.out⟩
    case measure => have := HKK.out; simp [intOf]; omega
   ·go_wp2_with fail
    refine wp_region_quietL (C := Grows w0) hmx (by kernel_rfl) (grows_refl w0) ?_
    repeat (first | (with_reducible refine wpQuiet_load rfl 58 _ rfl _ rfl _ LX.out ?_; simp only [Act.put, sT, sS, sZ]) | (with_reducible refine wpQuiet_load rfl 58 _ rfl _ rfl _ LY.out ?_; simp only [Act.put, sT, sS, sZ]) | (go_big_quiet_step (first | (with_reducible exact K3.out _))))
    refine wpQuiet_nil ?_
    rintro _ ⟨z, rfl⟩
    have HE := hid (HQ.out.trans (z.below.mono HQ.out.size))
    have R0 := hid (HROW.out.later z.below)
    obtain ⟨v2, A2, r2, k2, b2⟩ := push_key z.w V.heap.size ov now R0.out HE.out.size (by have := hlc.out; have := HK.out; omega) y HYO.out
    have L2 := hid (show (loadVar 58 (b.add (k * 25))).run Tryd.prog z.w = .ok (.agg (kyC y)) z.w from KyIn.load (HYA.out z.w HE.out))
    have HE2 := hid (HE.out.trans b2)
    have R2 := hid r2
    have KF := hid k2
    clear r2 k2 b2 LX LY K3
    go_wp2_with (first | (refine wpList_load_known rfl _ (.tmp 36) rfl _ rfl _ L2.out ?_) | (refine wpList_build_k1 rfl (.tmp 37) rfl y rfl ?_) | (at_builtin; refine wpList_append_runK rfl (.tmp 33) (.tmp 38) 28 rfl _ _ _ rfl rfl R2.out ?_))
    go_roundw
    case rel => exact ⟨k + 1, now ++ [y], true, rfl, by simp, by have := HKK.out; omega, by have := HK.out; simp; omega, by simp, KF.out, by
     have h := HPI.out _ _ _ HP.out
     rw [if_pos rfl, HD.out] at h
     unfold PutJ
     rw [h, if_pos rfl]
     simp, HE2.out⟩
    case measure => have := HKK.out; simp [intOf]; omega
   ·go_wp2_with fail
    refine wp_region_quietL (C := Grows w0) hmx (by kernel_rfl) (grows_refl w0) ?_
    repeat (first | (with_reducible refine wpQuiet_load rfl 58 _ rfl _ rfl _ LX.out ?_; simp only [Act.put, sT, sS, sZ]) | (with_reducible refine wpQuiet_load rfl 58 _ rfl _ rfl _ LY.out ?_; simp only [Act.put, sT, sS, sZ]) | (go_big_quiet_step (first | (with_reducible exact K3.out _))))
    refine wpQuiet_nil ?_
    rintro _ ⟨z, rfl⟩
    have HE := hid (HQ.out.trans (z.below.mono HQ.out.size))
    have R0 := hid (HROW.out.later z.below)
    obtain ⟨v2, A2, r2, k2, b2⟩ := push_key z.w V.heap.size ov now R0.out HE.out.size (by have := hlc.out; have := HK.out; omega) y HYO.out
    have L2 := hid (show (loadVar 58 (b.add (k * 25))).run Tryd.prog z.w = .ok (.agg (kyC y)) z.w from KyIn.load (HYA.out z.w HE.out))
    have HE2 := hid (HE.out.trans b2)
    have R2 := hid r2
    have KF := hid k2
    clear r2 k2 b2 LX LY K3
    go_wp2_with (first | (refine wpList_load_known rfl _ (.tmp 36) rfl _ rfl _ L2.out ?_) | (refine wpList_build_k1 rfl (.tmp 37) rfl y rfl ?_) | (at_builtin; refine wpList_append_runK rfl (.tmp 33) (.tmp 38) 28 rfl _ _ _ rfl rfl R2.out ?_))
    go_roundw
    case rel => exact ⟨k + 1, now ++ [y], false, rfl, by simp, by have := HKK.out; omega, by have := HK.out; simp; omega, (by intro _; have := HLF.out (by trivial); simp; omega), KF.out, by
     have h := HPI.out _ _ _ HP.out
     rw [if_neg (by decide), HD.out, HI.out, if_neg (by decide), if_neg (by decide)] at h
     unfold PutJ
     rw [h, if_neg (by decide)]
     simp, HE2.out⟩
    case measure => have := HKK.out; simp [intOf]; omega
   ·go_wp2_with fail
    refine wp_region_quietL (C := Grows w0) hmx (by kernel_rfl) (grows_refl w0) ?_
    repeat (first | (with_reducible refine wpQuiet_load rfl 58 _ rfl _ rfl _ LX.out ?_; simp only [Act.put, sT, sS, sZ]) | (with_reducible refine wpQuiet_load rfl 58 _ rfl _ rfl _ LY.out ?_; simp only [Act.put, sT, sS, sZ]) | (go_big_quiet_step (first | (with_reducible exact K3.out _))))
    refine wpQuiet_nil ?_
    rintro _ ⟨z, rfl⟩
    have HE := hid (HQ.out.trans (z.below.mono HQ.out.size))
    have R0 := hid (HROW.out.later z.below)
    obtain ⟨v2, A2, r2, k2, b2⟩ := push_key z.w V.heap.size ov now R0.out HE.out.size (by have := hlc.out; have := HK.out; omega) y HYO.out
    have L2 := hid (show (loadVar 58 (b.add (k * 25))).run Tryd.prog z.w = .ok (.agg (kyC y)) z.w from KyIn.load (HYA.out z.w HE.out))
    have HE2 := hid (HE.out.trans b2)
    have R2 := hid r2
    have KF := hid k2
    clear r2 k2 b2 LX LY K3
    go_wp2_with (first | (refine wpList_load_known rfl _ (.tmp 36) rfl _ rfl _ L2.out ?_) | (refine wpList_build_k1 rfl (.tmp 37) rfl y rfl ?_) | (at_builtin; refine wpList_append_runK rfl (.tmp 33) (.tmp 38) 28 rfl _ _ _ rfl rfl R2.out ?_))
    go_roundw
    case rel => exact ⟨k + 1, now ++ [y], true, rfl, by simp, by have := HKK.out; omega, by have := HK.out; simp; omega, by simp, KF.out, by
     have h := HPI.out _ _ _ HP.out
     rw [if_pos rfl, HD.out] at h
     unfold PutJ
     rw [h, if_pos rfl]
     simp, HE2.out⟩
    case measure => have := HKK.out; simp [intOf]; omega
  ·obtain rfl : k = n := by have := HK.out; omega
   have hnn : ¬ (k : Int) < (k : Int) := by omega
   have HDR := hid (show l.drop k = [] from List.drop_eq_nil_of_le (by have := HN.out; omega))
   cases d
   ·obtain ⟨v1, A1, r1, k1, b1⟩ := push_key w0 V.heap.size ov now HROW.out HQ.out.size (by have := hlc.out; have := HK.out; omega) x HXO.out
    have L1 := hid (show (loadVar 58 ⟨W.heap.size, 0, none⟩).run Tryd.prog w0 = .ok (.agg (kyC x)) w0 from (HB.out.later HQ.out).kyLoad)
    have R1 := hid r1
    have E := hid (show insK x l = now ++ [x] by
     have h := HPI.out _ _ _ HP.out
     rw [if_neg (by decide), HDR.out] at h
     exact h)
    have KF := hid (show KRow A1 W.heap.size v1 (insK x l) from by rw [E.out]; exact k1.lower Q.out.size)
    have QF := hid (QW.out.trans (b1.mono Q.out.size))
    clear r1 k1 b1
    go_wp2_with (first | (refine wpList_load_known rfl _ (.tmp 3) rfl _ rfl _ L1.out ?_) | (refine wpList_build_k1 rfl (.tmp 43) rfl x rfl ?_) | (at_builtin; refine wpList_append_runK rfl (.tmp 42) (.tmp 44) 28 rfl _ _ _ rfl rfl R1.out ?_))
    go_ret
    exact ⟨_, rfl, KF.out, QF.out⟩
   ·have E := hid (show insK x l = now by
     have h := HPI.out _ _ _ HP.out
     rw [if_pos rfl, HDR.out, List.append_nil] at h
     exact h)
    have KF := hid (show KRow w0 W.heap.size ov (insK x l) from by rw [E.out]; exact HROW.out.lower Q.out.size)
    go_wp2_with fail
    go_ret
    exact ⟨_, rfl, KF.out, QW.out⟩
end
section
open Go Go.RowKit
attribute [local go_sem] Oper.semAt_some Grows wide_fn
theorem setL_take_len (l : List Ky) : ∀ k, (setL (l.take k)).length ≤ k
 | 0 => by simp [setL]
 | k + 1 => by
  rw [List.take_add_one]
  have ih := setL_take_len l k
  cases h : l[k]? with
  | none => simp; omega
  | some x =>
   rw [Option.toList_some, setL_snoc]
   have := insK_len x (setL (l.take k))
   omega
theorem setL_ok {l : List Ky} (h : ∀ x ∈ l, KyOk x) : ∀ x ∈ setL l, KyOk x := fun x hx => h x (((foldK l [] List.Pairwise.nil).2 x).1 hx |>.resolve_left (by simp))
theorem rset_any (W : World) (sv : Value) (l : List Ky) (hs : KeysAt W sv l) (hl : l.length ≤ 9999) :
  Calls Tryd.prog 67 #[sv] W fun e w' => ∃ v', e = .returned v' ∧ KRow w' W.heap.size v' (setL l) ∧ Below W.heap.size W w' := by
 obtain ⟨a, cap, rfl, hnc, hcm⟩ := hs.shape
 have HS := hid hs
 obtain ⟨n, hn⟩ : ∃ n, l.length = n := ⟨_, rfl⟩
 rw [hn] at HS hnc hl ⊢
 have HN := hid hn
 have hlc := hid (And.intro hl (Nat.le_trans hnc hcm))
 have HT := hid (show setL (l.take n) = setL l by rw [List.take_of_length_le (by omega)])
 clear hs hnc hcm hn hl
 go_enter Tryd.func67, Tryd.ntmps67
 go_wp2_with fail
 go_loopw [3, 4] (fun ov i wr => ∃ k : Nat, i = .int .i64 (k : Int) ∧ k ≤ n ∧ KRow wr W.heap.size ov (setL (l.take k)) ∧ Below W.heap.size W wr) (fun _ i _ => n - (intOf i).toNat)
 case atStart => exact ⟨0, rfl, by omega, KRow.nil _ _, Below.refl _ _⟩
 case round =>
  obtain ⟨k, rfl, hkn, hrow, hq⟩ := hrel
  obtain ⟨ov, hov⟩ : ∃ ov, ov = u3 := ⟨_, rfl⟩
  subst hov
  have HQ := hid hq
  have HROW := hid hrow
  have HK := hid hkn
  clear hq hrow
  by_cases hk : k < n
  ·have hknI : (k : Int) < (n : Int) := by omega
   have hk0 : (0 : Int) ≤ (k : Int) := by omega
   have hkb : (k : Int) ≤ 9223372036854775806 := by have := hlc.out; omega
   obtain ⟨y, hy⟩ : ∃ y, l[k]? = some y := ⟨_, List.getElem?_eq_getElem (by have := HN.out; omega)⟩
   obtain ⟨b, rfl, ay⟩ := (HS.out.later HQ.out).at hy
   have LY := hid ay.load
   have HX := hid (show setL (l.take (k + 1)) = insK y (setL (l.take k)) by
    rw [List.take_add_one, hy, Option.toList_some, setL_snoc])
   have PT := hid (rput_any wr ov (setL (l.take k)) y (HS.out.ok hy) (HROW.out.keys (setL_ok (fun x hx => HS.out.all x (List.mem_of_mem_take hx)))) (by have := setL_take_len l k; have := hlc.out; omega))
   have HKK := hid hk
   clear hk hkn ay hy
   go_wp2_with (first | (refine wpList_load_known rfl _ (.tmp 14) rfl _ rfl _ LY.out ?_) | fail)
   refine PT.out.mono ?_
   rintro _ w1 ⟨v1, rfl, h1, hb1⟩
   have R1 := hid (h1.lower HQ.out.size)
   have Q1 := hid (HQ.out.trans (hb1.mono HQ.out.size))
   clear h1 hb1 PT LY
   go_wp2_with fail
   go_roundw
   case rel => exact ⟨k + 1, by simp, by have := HKK.out; omega, by rw [HX.out]; exact R1.out, Q1.out⟩
   case measure => have := HKK.out; simp [intOf]; omega
  ·obtain rfl : k = n := by have := HK.out; omega
   have hnn : ¬ (k : Int) < (k : Int) := by omega
   have R := hid (show KRow wr W.heap.size ov (setL l) from by have h := HROW.out; rw [HT.out] at h; exact h)
   go_wp2_with fail
   go_ret
   exact ⟨_, rfl, R.out, HQ.out⟩
end
section
open Go Go.RowKit
attribute [local go_sem] Oper.semAt_some Grows wide_fn
theorem may_of {l : List Ky} (h : l.any strayK = false) {k : Nat} {y : Ky} (hy : l[k]? = some y) : (y.slot || decide (y.key = 0)) = true := by
 have h1 := List.any_eq_false.1 h y (List.mem_of_getElem? hy)
 unfold strayK at h1
 cases hs : y.slot
 ·rw [hs] at h1
  by_cases hk : y.key = 0
  ·simp [hk]
  ·simp [hk] at h1
 ·rfl
theorem rmake_any (W : World) (rv sv : Value) (r s : List Ky) (hr : KeysAt W rv r) (hs : KeysAt W sv s) (hm1 : r.any strayK = false) (hm2 : s.any strayK = false) (hlr : r.length ≤ 200) (hls : s.length ≤ 200) :
  Calls Tryd.prog 46 #[rv, sv] W (SetsP W (setL r) (setL s) 0) := by
 have hB := (Has.new W 30 #[.slice none 0 0, .slice none 0 0]).alloc (.cells #[rv, sv] 28)
 have hP := Has.new (W.alloc (.cells #[.slice none 0 0, .slice none 0 0] 30)) 28 #[rv, sv]
 simp only [World.size_alloc] at hP
 have hq0 := (newA W (.cells #[.slice none 0 0, .slice none 0 0] 30)).alloc (by simp) (.cells #[rv, sv] 28)
 obtain ⟨ra, rc, rfl, _, hrm⟩ := hr.shape
 obtain ⟨sa, sc, rfl, _, hsm⟩ := hs.shape
 obtain ⟨V, hV⟩ : ∃ V, (W.alloc (.cells #[.slice none 0 0, .slice none 0 0] 30)).alloc (.cells #[.slice ra r.length rc, .slice sa s.length sc] 28) = V := ⟨_, rfl⟩
 rw [hV] at hB hP hq0
 have HR := hid (hr.later hq0)
 have HS := hid (hs.later hq0)
 have Q := hid hq0
 have HB := hid hB
 have HP := hid hP
 have HM1 := hid hm1
 have HM2 := hid hm2
 have LR := hid (show (setL r).length ≤ 200 by have := setL_take_len r r.length; rw [List.take_length] at this; omega)
 have LS := hid (show (setL s).length ≤ 200 by have := setL_take_len s s.length; rw [List.take_length] at this; omega)
 have S1 := hid (fun (X : World) (hX : Below V.heap.size V X) => rset_any X _ r (HR.out.later hX) (by omega))
 have S2 := hid (fun (X : World) (hX : Below V.heap.size V X) => rset_any X _ s (HS.out.later hX) (by omega))
 have OR := hid (setL_ok hr.all)
 have OS := hid (setL_ok hs.all)
 obtain ⟨rn, hrn⟩ : ∃ rn, r.length = rn := ⟨_, rfl⟩
 obtain ⟨sn, hsn⟩ : ∃ sn, s.length = sn := ⟨_, rfl⟩
 have HRN := hid (And.intro hrn hlr)
 have HSN := hid (And.intro hsn hls)
 rw [hrn] at HP HR S1 hV ⊢
 rw [hsn] at HP HS S2 hV ⊢
 clear hr hs hlr hls hq0 hB hP hrm hsm hm1 hm2 hrn hsn
 go_enter Tryd.func46, Tryd.ntmps46
 go_wp2_with fail
 clear hV
 go_loopw [14] (fun jv wr => ∃ j : Int, jv = .int .i64 j ∧ (j = 0 ∨ j = 1 ∨ j = 2) ∧ Below V.heap.size V wr) (fun jv _ => 2 - (intOf jv).toNat)
 case atStart => exact ⟨0, rfl, .inl rfl, Below.refl _ _⟩
 case round =>
  obtain ⟨j, rfl, hj3, hq⟩ := hrel
  have HQ := hid hq
  obtain ⟨V1, hV1⟩ : ∃ V1, V1 = wr := ⟨_, rfl⟩
  subst hV1
  clear hq
  rcases hj3 with rfl | rfl | rfl
  ·have c := (HP.out.later HQ.out).cell 0 _ rfl
   go_wp2_with fail
   clear c
   go_loopw [8] (fun iv wq => ∃ k : Nat, iv = .int .i64 (k : Int) ∧ k ≤ rn ∧ Below V1.heap.size V1 wq) (fun iv _ => rn - (intOf iv).toNat)
   case atStart => exact ⟨0, rfl, by omega, Below.refl _ _⟩
   case round =>
    obtain ⟨k, rfl, hk, hq⟩ := hrel
    have HQ1 := hid (HQ.out.trans (hq.mono HQ.out.size))
    have HQ2 := hid hq
    have HK := hid hk
    clear hq
    by_cases hkn : k < rn
    ·have hknI : (k : Int) < (rn : Int) := by omega
     have hk0 : (0 : Int) ≤ (k : Int) := by omega
     have hkb : (k : Int) ≤ 9223372036854775806 := by have := HRN.out; omega
     obtain ⟨y, hy⟩ : ∃ y, r[k]? = some y := ⟨_, List.getElem?_eq_getElem (by have := HRN.out; omega)⟩
     have hlk := HR.out.later HQ1.out
     obtain ⟨a', cap', e', _, _, hoks, hall⟩ := hlk
     injection e' with e1 e2 e3
     subst e1 e3
     obtain ⟨b, rfl, ay⟩ := hall k y hy
     have LY := hid (KyIn.load ay)
     have RM := hid (rmay_any wr y (hoks y (List.mem_of_getElem? hy)))
     rw [may_of HM1.out hy] at RM
     have HKK := hid hkn
     clear hkn hk ay hy hoks hall e2
     go_wp2_with (first | (refine wpList_load_known rfl _ (.tmp 26) rfl _ rfl _ LY.out ?_) | fail)
     refine RM.out.mono ?_
     rintro _ w1 ⟨rfl, hb1⟩
     have QN := hid (HQ2.out.trans (hb1.mono HQ2.out.size))
     clear hb1 RM LY
     go_wp2_with fail
     go_roundw
     case rel => exact ⟨k + 1, by simp, by have := HKK.out; omega, QN.out⟩
     case measure => have := HKK.out; simp [intOf]; omega
    ·obtain rfl : k = rn := by have := HK.out; omega
     have hnn : ¬ (k : Int) < (k : Int) := by omega
     go_wp2_with fail
     go_roundw
     case rel => exact ⟨1, rfl, by simp, HQ1.out⟩
     case measure => simp [intOf]
  ·have c := (HP.out.later HQ.out).cell 1 _ rfl
   go_wp2_with fail
   clear c
   go_loopw [8] (fun iv wq => ∃ k : Nat, iv = .int .i64 (k : Int) ∧ k ≤ sn ∧ Below V1.heap.size V1 wq) (fun iv _ => sn - (intOf iv).toNat)
   case atStart => exact ⟨0, rfl, by omega, Below.refl _ _⟩
   case round =>
    obtain ⟨k, rfl, hk, hq⟩ := hrel
    have HQ1 := hid (HQ.out.trans (hq.mono HQ.out.size))
    have HQ2 := hid hq
    have HK := hid hk
    clear hq
    by_cases hkn : k < sn
    ·have hknI : (k : Int) < (sn : Int) := by omega
     have hk0 : (0 : Int) ≤ (k : Int) := by omega
     have hkb : (k : Int) ≤ 9223372036854775806 := by have := HSN.out; omega
     obtain ⟨y, hy⟩ : ∃ y, s[k]? = some y := ⟨_, List.getElem?_eq_getElem (by have := HSN.out; omega)⟩
     have hlk := HS.out.later HQ1.out
     obtain ⟨a', cap', e', _, _, hoks, hall⟩ := hlk
     injection e' with e1 e2 e3
     subst e1 e3
     obtain ⟨b, rfl, ay⟩ := hall k y hy
     have LY := hid (KyIn.load ay)
     have RM := hid (rmay_any wr y (hoks y (List.mem_of_getElem? hy)))
     rw [may_of HM2.out hy] at RM
     have HKK := hid hkn
     clear hkn hk ay hy hoks hall e2
     go_wp2_with (first | (refine wpList_load_known rfl _ (.tmp 26) rfl _ rfl _ LY.out ?_) | fail)
     refine RM.out.mono ?_
     rintro _ w1 ⟨rfl, hb1⟩
     have QN := hid (HQ2.out.trans (hb1.mono HQ2.out.size))
     clear hb1 RM LY
     go_wp2_with fail
     go_roundw
     case rel => exact ⟨k + 1, by simp, by have := HKK.out; omega, QN.out⟩
     case measure => have := HKK.out; simp [intOf]; omega
    ·obtain rfl : k = sn := by have := HK.out; omega
     have hnn : ¬ (k : Int) < (k : Int) := by omega
     go_wp2_with fail
     go_roundw
     case rel => exact ⟨2, rfl, by simp, HQ1.out⟩
     case measure => simp [intOf]
  ·go_wp2_with fail
   refine (S1.out _ HQ.out).mono ?_
   rintro _ w3 ⟨v3, rfl, hr3, hb3⟩
   have hk3 := hr3.keys OR.out
   have hb13 := HQ.out.trans (hb3.mono HQ.out.size)
   obtain ⟨a3, c3, hv3, _⟩ := hk3.shape
   subst hv3
   have K3 := hid hk3
   have QB3 := hid hb13
   clear hk3 hb3 hr3 hb13
   generalize hn3 : (setL r).length = n3 at *
   go_wp2_with fail
   refine (S2.out w3 QB3.out).mono ?_
   rintro _ w4 ⟨v4, rfl, hr4, hb4⟩
   have hk4 := hr4.keys OS.out
   have hb14 := QB3.out.trans (hb4.mono QB3.out.size)
   obtain ⟨a4, c4, hv4, _⟩ := hk4.shape
   subst hv4
   have K34 := hid (K3.out.later hb4)
   have K4 := hid hk4
   clear hk4 hb4 hr4
   generalize hn4 : (setL s).length = n4 at *
   obtain ⟨W5, hW5, hBB, hqq⟩ := newBox w4 30 #[.slice a3 n3 c3, .slice a4 n4 c4]
   have hI3 : ¬ (200 : Int) < (n3 : Int) := by have := LR.out; omega
   have hI4 : ¬ (200 : Int) < (n4 : Int) := by have := LS.out; omega
   have Q5 := hid (hb14.trans (hqq.mono hb14.size))
   have d0 := hBB.cell 0 _ rfl
   have d1 := hBB.cell 1 _ rfl
   have b7 := HB.out.later Q5.out
   have z0 := b7.cell 0 _ rfl
   have z1 := b7.cell 1 _ rfl
   have f0 := b7.frozen 0
   have f1 := b7.frozen 1
   have hF := hid ((b7.set 0 (.slice a3 n3 c3)).set 1 (.slice a4 n4 c4))
   have QF := hid (((Q.out.trans (Q5.out.mono Q.out.size)).setCell (p := ⟨W.heap.size, 0, none⟩) (Nat.le_refl _) (.slice a3 n3 c3)).setCell (p := ⟨W.heap.size, 1, none⟩) (Nat.le_refl _) (.slice a4 n4 c4))
   have b7s : Has (W5.setCell ⟨W.heap.size, 0, none⟩ (.slice a3 n3 c3)) W.heap.size 30 #[.slice a3 n3 c3, .slice none 0 0] := b7.set 0 _
   have KA2 := hid (((K34.out.later hqq).away b7 0 (.slice a3 n3 c3)).away b7s 1 (.slice a4 n4 c4))
   have KB2 := hid (((K4.out.later hqq).away b7 0 (.slice a3 n3 c3)).away b7s 1 (.slice a4 n4 c4))
   have HLt := hid HB.out.lt
   clear b7s b7 hqq hb14 hBB
   go_wp2_with fail
   refine bodyPost_ret (results_setsB rfl rfl hF.out) rfl ?_
   exact ⟨_, _, rfl, KA2.out, KB2.out, QF.out⟩
theorem keyN_may (c d : Int) : strayK (keyN c d) = false := by
 unfold keyN strayK
 split <;> simp
theorem keysN_may (zs : List (Int × Int)) : (keysN zs).any strayK = false := by
 rw [List.any_eq_false]
 intro x hx
 obtain ⟨p, _, rfl⟩ := List.mem_map.1 hx
 rw [show strayK (kfN p) = false from keyN_may _ _]
 decide
noncomputable def setN (zs : List (Int × Int)) : List Ky := setL (keysN zs)
theorem sets10_any (W : World) (v1 v2 : Value) (z1 z2 : List (Int × Int)) (h1 : RawAt W v1 z1) (h2 : RawAt W v2 z2) :
  Calls Tryd.prog 26 #[v1, v2] W fun e w' => ∃ x y, e = .returned (.agg #[x, y]) ∧ KeysAt w' x (setN z1) ∧ KeysAt w' y (setN z2) ∧ Below W.heap.size W w' := by
 obtain ⟨V, hV, hB, hq0⟩ := newBox W 30 #[.slice none 0 0, .slice none 0 0]
 have Q := hid hq0
 have HB := hid hB
 have K1 := hid (keys_any V v1 z1 (h1.later hq0))
 have K2 := hid (fun (X : World) (hX : Below V.heap.size V X) => keys_any X v2 z2 (h2.later (hq0.trans (hX.mono hq0.size))))
 obtain ⟨ra, rc, rfl, _, _⟩ := h1
 obtain ⟨sa, sc, rfl, _, _⟩ := h2
 clear hB hq0
 generalize z1.length = n1 at *
 generalize z2.length = n2 at *
 go_enter Tryd.func26, Tryd.ntmps26
 go_wp2_with fail
 clear hV
 refine K1.out.mono ?_
 rintro _ w1 ⟨v3, rfl, hr3, hb1⟩
 have hk3 := hr3.keys (keysN_ok z1)
 obtain ⟨a3, c3, hv3, _⟩ := hk3.shape
 subst hv3
 have K3 := hid hk3
 have Q1 := hid hb1
 clear hk3 hr3 hb1
 go_wp2_with fail
 refine (K2.out w1 Q1.out).mono ?_
 rintro _ w2 ⟨v4, rfl, hr4, hb2⟩
 have hk4 := hr4.keys (keysN_ok z2)
 obtain ⟨a4, c4, hv4, _⟩ := hk4.shape
 subst hv4
 have MK := hid (rmake_any w2 _ _ (keysN z1) (keysN z2) (K3.out.later hb2) hk4 (keysN_may z1) (keysN_may z2) (by have := keysN_len z1; omega) (by have := keysN_len z2; omega))
 have Q2 := hid (Q1.out.trans (hb2.mono Q1.out.size))
 clear hk4 hr4 hb2 K3
 generalize (keysN z1).length = m1 at *
 generalize (keysN z2).length = m2 at *
 go_wp2_with fail
 refine MK.out.mono ?_
 rintro _ w3 ⟨x5, y5, rfl, kx5, ky5, hb3⟩
 obtain ⟨ax, cx, ex, _⟩ := kx5.shape
 obtain ⟨ay, cy, ey, _⟩ := ky5.shape
 subst ex ey
 have KX := hid kx5
 have KY := hid ky5
 have Q3 := hid (Q2.out.trans (hb3.mono Q2.out.size))
 clear kx5 ky5 hb3 MK
 generalize hn3 : (setL (keysN z1)).length = n3 at *
 generalize hn4 : (setL (keysN z2)).length = n4 at *
 obtain ⟨W5, hW5, hBB, hqq⟩ := newBox w3 30 #[.slice ax n3 cx, .slice ay n4 cy]
 have Q5 := hid (Q3.out.trans (hqq.mono Q3.out.size))
 have d0 := hBB.cell 0 _ rfl
 have d1 := hBB.cell 1 _ rfl
 have b7 := HB.out.later Q5.out
 have y0 := b7.cell 0 _ rfl
 have y1 := b7.cell 1 _ rfl
 have f0 := b7.frozen 0
 have f1 := b7.frozen 1
 have hF := hid ((b7.set 0 (.slice ax n3 cx)).set 1 (.slice ay n4 cy))
 have QF := hid (((Q.out.trans (Q5.out.mono Q.out.size)).setCell (p := ⟨W.heap.size, 0, none⟩) (Nat.le_refl _) (.slice ax n3 cx)).setCell (p := ⟨W.heap.size, 1, none⟩) (Nat.le_refl _) (.slice ay n4 cy))
 have b7s : Has (W5.setCell ⟨W.heap.size, 0, none⟩ (.slice ax n3 cx)) W.heap.size 30 #[.slice ax n3 cx, .slice none 0 0] := b7.set 0 _
 have KA2 := hid (((KX.out.later hqq).away b7 0 (.slice ax n3 cx)).away b7s 1 (.slice ay n4 cy))
 have KB2 := hid (((KY.out.later hqq).away b7 0 (.slice ax n3 cx)).away b7s 1 (.slice ay n4 cy))
 have HLt := hid HB.out.lt
 clear b7s b7 hqq hBB
 go_wp2_with fail
 refine bodyPost_ret (results_sets rfl rfl hF.out) rfl ?_
 exact ⟨_, _, rfl, KA2.out, KB2.out, QF.out⟩
end
section
open Go Go.ChangeShapes Go.WideShapes Go.ChangeAt Go.RowKit
theorem cellsU64 : Tryd.prog.cellsOf 22 = 1 := by kernel_rfl
theorem cellsWord : Tryd.prog.cellsOf 24 = 4 := by kernel_rfl
theorem list4 {α : Type} (l : List α) (h : (⟨l⟩ : Array α).size = 4) : ∃ a b c d, l = [a, b, c, d] := by
 match l, h with
 | [a, b, c, d], _ => exact ⟨a, b, c, d, rfl⟩
theorem u64_of_wf {x : Int} (h : (Lit.int .u64 x).wf = true) : U64 x := by
 have := bounds_u64 h
 unfold U64; omega
theorem word_of (x0 x1 x2 x3 : Int) (h0 : U64 x0) (h1 : U64 x1) (h2 : U64 x2) (h3 : U64 x3) : ∃ n, W256 n ∧ wv n = .agg #[.int .u64 x0, .int .u64 x1, .int .u64 x2, .int .u64 x3] := by
 obtain ⟨z, z0, z1, z2, z3⟩ : ∃ z : Nat → Int, z 0 = x0 ∧ z 1 = x1 ∧ z 2 = x2 ∧ z 3 = x3 := ⟨fun k => if k = 0 then x0 else if k = 1 then x1 else if k = 2 then x2 else x3, rfl, rfl, rfl, rfl⟩
 subst z0 z1 z2 z3
 obtain ⟨g0, g1⟩ := num_lt z h0 h1 h2 h3
 have en : num z = ((num z).toNat : Int) := (Int.toNat_of_nonneg g0).symm
 have e := lim_num z (num z).toNat h0 h1 h2 h3 en
 refine ⟨_, ?_, wv_of e⟩
 unfold W256
 rw [en] at g1
 exact Int.ofNat_lt.1 g1
theorem open_word {H : Type} {enc : TypeId × Value → H} {W : World} {base b : Nat} {sp : Nat → Bool} {held : Bool} {v : Value} {d : DataW H} {ps : List MemPlace}
  (hval : Value.okWide Tryd.prog W .any base 24 v) (hd : DataW.Trod enc Tryd.prog W b sp held 24 v d ps) :
  ∃ n, W256 n ∧ v = wv n ∧ ps = [] ∧ ∀ (W' : World) (b' : Nat) (sp' : Nat → Bool) (held' : Bool), DataW.Trod enc Tryd.prog W' b' sp' held' 24 (wv n) d [] := by
 obtain ⟨cs, rfl, hsz, _⟩ : ∃ cs, v = .agg cs ∧ cs.size = Tryd.prog.cellsOf 24 ∧ Row.okWide Tryd.prog W .any base 24 cs := by
  simpa [Value.okWide, Tryd.underlying24] using hval
 rw [cellsWord] at hsz
 obtain ⟨l⟩ := cs
 obtain ⟨c0, c1, c2, c3, rfl⟩ := list4 l hsz
 obtain ⟨fuel, hf⟩ := hd
 obtain ⟨y0, y1, y2, y3, m, hx, hy0, hy1, hy2, hy3⟩ := trod_array4 Tryd.underlying24 cellsU64 hf
 obtain ⟨x0, e0, rfl, w0⟩ := DataW.trod_int Tryd.underlying22 hy0
 obtain ⟨x1, e1, rfl, w1⟩ := DataW.trod_int Tryd.underlying22 hy1
 obtain ⟨x2, e2, rfl, w2⟩ := DataW.trod_int Tryd.underlying22 hy2
 obtain ⟨x3, e3, rfl, w3⟩ := DataW.trod_int Tryd.underlying22 hy3
 simp at e0 e1 e2 e3
 subst e0 e1 e2 e3
 simp only [Prod.mk.injEq] at hx
 obtain ⟨rfl, rfl⟩ := hx
 obtain ⟨n, hn, hv⟩ := word_of x0 x1 x2 x3 (u64_of_wf w0) (u64_of_wf w1) (u64_of_wf w2) (u64_of_wf w3)
 refine ⟨n, hn, hv.symm, rfl, fun W' b' sp' held' => ?_⟩
 rw [hv]
 exact ⟨2, by simp [DataW.trod, Value.cells, Tryd.underlying24, Tryd.underlying22, cellsWord, cellsU64, w0, w1, w2, w3, show List.range 4 = [0, 1, 2, 3] from rfl]⟩
theorem i64_of_wf {x : Int} (h : (Lit.int .i64 x).wf = true) : I64 x := by
 have := bounds_i64 h
 unfold I64; omega
end
section
open Go Go.ChangeShapes Go.WideShapes Go.ChangeAt Go.RowKit Go.Deep
theorem cellsI64 : Tryd.prog.cellsOf 3 = 1 := by kernel_rfl
theorem cellsPairI : Tryd.prog.cellsOf 88 = 2 := by kernel_rfl
theorem trod_pairI {H : Type} {enc : TypeId × Value → H} {P : Program} {w : World} {base : Nat} {spare : Nat → Bool} {held : Bool} {t e : TypeId} {fuel : Nat} {cs : List Value} {x : DataW H × List MemPlace} (ht : P.underlying t = some (.array 2 e)) (hce : P.cellsOf e = 1) (hcs : cs.length = 2)
  (h : DataW.trod enc P w base spare held fuel t cs = some x) :
  ∃ c0 c1 y0 y1 n, cs = [c0, c1] ∧ DataW.trod enc P w base spare held n e [c0] = some y0 ∧ DataW.trod enc P w base spare held n e [c1] = some y1 := by
 match cs, hcs with
 | [c0, c1], _ =>
  cases fuel with
  | zero => simp [DataW.trod] at h
  | succ n =>
   unfold DataW.trod at h
   rw [ht] at h
   have r2 : List.range 2 = [0, 1] := rfl
   simp [r2, hce] at h
   obtain ⟨_, h⟩ := h
   cases h0 : DataW.trod enc P w base spare held n e [c0] with
   | none => simp [h0] at h
   | some y0 =>
    cases h1 : DataW.trod enc P w base spare held n e [c1] with
    | none => simp [h0, h1] at h
    | some y1 => exact ⟨c0, c1, y0, y1, n, rfl, h0, h1⟩
theorem laidOutAll : laidOutB Tryd.prog = true := by kernel_rfl
theorem trodAll_below {H : Type} {enc : TypeId × Value → H} {W W' : World} (hb : Below W.heap.size W W') : ∀ {ts : List TypeId} {vs : List Value} {ds : List (DataW H)} {ps : List MemPlace},
  (∀ t ∈ ts, Tryd.prog.readableRec t = true ∧ t < Tryd.prog.types.size) → DataW.TrodAll enc Tryd.prog W 0 (fun _ => true) true ts vs ds ps → (∀ x ∈ ps, x.block < W.heap.size) →
  DataW.TrodAll enc Tryd.prog W' 0 (fun b => decide (b < W.heap.size)) true ts vs ds ps
 | [], [], [], _, _, h, _ => h
 | _ :: _, _ :: _, _ :: _, _, ht, ⟨p, q, h1, h2, e⟩, hs =>
  ⟨p, q, Below.trod laidOutAll (ht _ (List.mem_cons.2 (Or.inl rfl))).1 (ht _ (List.mem_cons.2 (Or.inl rfl))).2 h1 hb (fun x hx => hs x (by rw [e]; exact List.mem_append_left _ hx)),
   trodAll_below hb (fun t h => ht t (List.mem_cons.2 (Or.inr h))) h2 (fun x hx => hs x (by rw [e]; exact List.mem_append_right _ hx)), e⟩
theorem post_read {H : Type} {enc : TypeId × Value → H} {f : Func} {s : ChangeSpec} {W W' : World} {args : Array Value} {ds : List (DataW H)} {before : List MemPlace}
  (hW : DataW.Whole enc Tryd.prog f.params.toList s.vars false W args.toList ds [] before) (hvars : s.vars = []) (hft : f.resultTypes = #[4])
  (hfn : s.fn H ds = { results := [.lit (.bool true)], args := ds }) (hA : DataW.TrodAll enc Tryd.prog W 0 (fun _ => true) true f.params.toList args.toList ds before)
  (hts : (f.params.toList.all fun t => Tryd.prog.readableRec t && decide (t < Tryd.prog.types.size)) = true)
  (hb : Below W.heap.size W W') : s.post enc Tryd.prog f false true false false W args (.bool true) W' := by
 have e : (s.fn H (ds ++ [])) = { results := [.lit (.bool true)], args := ds } := by rw [List.append_nil]; exact hfn
 refine ⟨ds, [], before, [], before, [], hW, ?_, ?_, ?_, World.keptBut_mono (fun p hp => absurd hp (by simp)) (hb.frame (fun _ => False)), fun h => by cases h⟩
 ·rw [e, hft]
  exact trodAll_mk1 (shut_bool Tryd.underlying4 _)
 ·rw [e]
  exact trodAll_below hb (fun t ht => by
   have := List.all_eq_true.1 hts t ht
   simpa using this) hA (fun x hx => by simpa using hW.lt x hx)
 ·rw [e, hvars]
  rfl
end
section
open Go Go.ChangeShapes Go.WideShapes Go.ChangeAt Go.RowKit Go.Deep
set_option maxRecDepth 100000
theorem cellsU8 : Tryd.prog.cellsOf 5 = 1 := by kernel_rfl
theorem cellsAddr : Tryd.prog.cellsOf 56 = 20 := by kernel_rfl
theorem cellsBool1 : Tryd.prog.cellsOf 4 = 1 := by kernel_rfl
theorem cellsKey : Tryd.prog.cellsOf 58 = 25 := by kernel_rfl
theorem of_bytes : ∀ (m : Nat) (f : Nat → Nat), (∀ j, f j < 256) → ∃ n, n < 256 ^ m ∧ ∀ j, j < m → n / 256 ^ j % 256 = f j
 | 0, f, _ => ⟨0, by simp, fun j h => by omega⟩
 | m + 1, f, hf => by
  obtain ⟨n, hn, h⟩ := of_bytes m (fun j => f (j + 1)) (fun j => hf (j + 1))
  have h0 := hf 0
  refine ⟨f 0 + 256 * n, ?_, fun j hj => ?_⟩
  ·rw [Nat.pow_succ]; omega
  ·cases j with
   | zero => simp; omega
   | succ j =>
    rw [Nat.pow_succ', ← Nat.div_div_eq_div_mul, show (f 0 + 256 * n) / 256 = n by omega]
    exact h j (by omega)
theorem addr_of (cs : List Value) (hl : cs.length = 20) (h : ∀ i, i < 20 → ∃ b : Nat, b < 256 ∧ cs[i]? = some (.int .u8 (b : Int))) : ∃ n, n < 256 ^ 20 ∧ cs = adL n := by
 have hch : ∃ f : Nat → Nat, (∀ j, f j < 256) ∧ ∀ i, i < 20 → cs[i]? = some (.int .u8 ((f i : Nat) : Int)) := by
  refine ⟨fun i => if h' : i < 20 then Classical.choose (h i h') else 0, fun j => ?_, fun i hi => ?_⟩
  ·by_cases h' : j < 20
   ·simp only [dif_pos h']; exact (Classical.choose_spec (h j h')).1
   ·simp only [dif_neg h']; decide
  ·simp only [dif_pos hi]; exact (Classical.choose_spec (h i hi)).2
 obtain ⟨f, hf, hc⟩ := hch
 obtain ⟨n, hn, hb⟩ := of_bytes 20 (fun j => f (19 - j)) (fun j => hf _)
 refine ⟨n, hn, List.ext_getElem? fun i => ?_⟩
 by_cases hi : i < 20
 ·rw [hc i hi]
  have e := hb (19 - i) (by omega)
  rw [show 19 - (19 - i) = i by omega] at e
  rw [show (adL n)[i]? = some (.int .u8 ((adB n i : Nat) : Int)) by simp [adL, hi]]
  unfold adB
  rw [e]
 ·rw [List.getElem?_eq_none (by omega), List.getElem?_eq_none (by rw [adL_len]; omega)]
theorem trod_addr {H : Type} {enc : TypeId × Value → H} {w : World} {base : Nat} {sp : Nat → Bool} {held : Bool} {fuel : Nat} {cs : List Value} {x : DataW H × List MemPlace}
  (h : DataW.trod enc Tryd.prog w base sp held fuel 56 cs = some x) (hl : cs.length = 20) : ∃ n, n < 256 ^ 20 ∧ cs = adL n := by
 obtain ⟨xs, m, rfl, hx, hlen, hxl, hi⟩ := DataW.trod_array Tryd.underlying56 h
 refine addr_of cs hl fun i hi20 => ?_
 have h1 := hi i hi20
 rw [cellsU8, Nat.mul_one] at h1
 have hxs : i < xs.length := by omega
 rw [List.getElem?_eq_getElem hxs] at h1
 obtain ⟨x0, e0, hy, w0⟩ := DataW.trod_int Tryd.underlying5 h1
 have hci : i < cs.length := by omega
 have hd1 : (cs.drop i).take 1 = [cs[i]] := by
  rw [List.drop_eq_getElem_cons hci]; rfl
 rw [hd1] at e0
 have b0 := bounds_u8 w0
 refine ⟨x0.toNat, by omega, ?_⟩
 rw [List.getElem?_eq_getElem hci, Int.toNat_of_nonneg b0.1]
 simpa using e0
theorem trod_bool1 {H : Type} {enc : TypeId × Value → H} {w : World} {base : Nat} {sp : Nat → Bool} {held : Bool} {fuel : Nat} {c : Value} {x : DataW H × List MemPlace}
  (h : DataW.trod enc Tryd.prog w base sp held fuel 4 [c] = some x) : ∃ b, c = .bool b := by
 cases fuel with
 | zero => simp [DataW.trod] at h
 | succ n =>
  unfold DataW.trod at h
  rw [Tryd.underlying4] at h
  cases c <;> simp at h ⊢
theorem four_k (a b c d : Int) (ha : U64 a) (hb : U64 b) (hc : U64 c) (hd : U64 d) : ∃ n, W256 n ∧ lim n 0 = a ∧ lim n 1 = b ∧ lim n 2 = c ∧ lim n 3 = d := by
 obtain ⟨z, z0, z1, z2, z3⟩ : ∃ z : Nat → Int, z 0 = a ∧ z 1 = b ∧ z 2 = c ∧ z 3 = d := ⟨fun k => if k = 0 then a else if k = 1 then b else if k = 2 then c else d, rfl, rfl, rfl, rfl⟩
 subst z0 z1 z2 z3
 obtain ⟨g0, g1⟩ := num_lt z ha hb hc hd
 have en : num z = ((num z).toNat : Int) := (Int.toNat_of_nonneg g0).symm
 refine ⟨_, ?_, lim_num z (num z).toNat ha hb hc hd en⟩
 unfold W256
 rw [en] at g1
 exact Int.ofNat_lt.1 g1
theorem trod_word_k {H : Type} {enc : TypeId × Value → H} {w : World} {base : Nat} {sp : Nat → Bool} {held : Bool} {fuel : Nat} {c0 c1 c2 c3 : Value} {x : DataW H × List MemPlace}
  (h : DataW.trod enc Tryd.prog w base sp held fuel 24 [c0, c1, c2, c3] = some x) : ∃ n, W256 n ∧ c0 = .int .u64 (lim n 0) ∧ c1 = .int .u64 (lim n 1) ∧ c2 = .int .u64 (lim n 2) ∧ c3 = .int .u64 (lim n 3) := by
 obtain ⟨y0, y1, y2, y3, m, hx, hy0, hy1, hy2, hy3⟩ := trod_array4 Tryd.underlying24 cellsU64 h
 obtain ⟨x0, e0, rfl, w0⟩ := DataW.trod_int Tryd.underlying22 hy0
 obtain ⟨x1, e1, rfl, w1⟩ := DataW.trod_int Tryd.underlying22 hy1
 obtain ⟨x2, e2, rfl, w2⟩ := DataW.trod_int Tryd.underlying22 hy2
 obtain ⟨x3, e3, rfl, w3⟩ := DataW.trod_int Tryd.underlying22 hy3
 simp at e0 e1 e2 e3
 subst e0 e1 e2 e3
 obtain ⟨n, hn, h0, h1, h2, h3⟩ := four_k x0 x1 x2 x3 (u64_of_wf w0) (u64_of_wf w1) (u64_of_wf w2) (u64_of_wf w3)
 exact ⟨n, hn, by rw [h0], by rw [h1], by rw [h2], by rw [h3]⟩
theorem cut25 {α : Type} (l : List α) (h : l.length = 25) : ∃ (p : List α) (b c0 c1 c2 c3 : α), p.length = 20 ∧ l = p ++ [b, c0, c1, c2, c3] := by
 have hd : (l.drop 20).length = 5 := by rw [List.length_drop]; omega
 have e := (List.take_append_drop 20 l).symm
 generalize hq : l.drop 20 = q at *
 match q, hd with
 | [b, c0, c1, c2, c3], _ => exact ⟨l.take 20, b, c0, c1, c2, c3, by rw [List.length_take]; omega, e⟩
theorem trod_key {H : Type} {enc : TypeId × Value → H} {w : World} {base : Nat} {sp : Nat → Bool} {held : Bool} {fuel : Nat} {cs : List Value} {x : DataW H × List MemPlace}
  (h : DataW.trod enc Tryd.prog w base sp held fuel 58 cs = some x) (hl : cs.length = 25) : ∃ k : Ky, KyOk k ∧ cs = kyL k := by
 obtain ⟨p, b, c0, c1, c2, c3, hp, rfl⟩ := cut25 cs hl
 obtain ⟨ys, n, _, _, _, hyl, hg⟩ := DataW.trod_struct Tryd.underlying58 h
 have hA := cellsAddr
 have hB := cellsBool1
 have hW := cellsWord
 have h0 := hg 0 _ rfl
 have h1 := hg 1 _ rfl
 have h2 := hg 2 _ rfl
 have h0 : DataW.trod enc Tryd.prog w base sp held n 56 (((p ++ [b, c0, c1, c2, c3]).drop 0).take (Tryd.prog.cellsOf 56)) = ys[0]? := h0
 have h1 : DataW.trod enc Tryd.prog w base sp held n 4 (((p ++ [b, c0, c1, c2, c3]).drop 20).take (Tryd.prog.cellsOf 4)) = ys[1]? := h1
 have h2 : DataW.trod enc Tryd.prog w base sp held n 24 (((p ++ [b, c0, c1, c2, c3]).drop 21).take (Tryd.prog.cellsOf 24)) = ys[2]? := h2
 obtain ⟨y0, y1, y2, rfl⟩ : ∃ a b c, ys = [a, b, c] := by
  match ys, hyl with
  | [a, b, c], _ => exact ⟨a, b, c, rfl⟩
 have d0 : ((p ++ [b, c0, c1, c2, c3]).drop 0).take 20 = p := by simp [hp]
 have d1 : ((p ++ [b, c0, c1, c2, c3]).drop 20).take 1 = [b] := by simp [hp]
 have d2 : ((p ++ [b, c0, c1, c2, c3]).drop 21).take 4 = [c0, c1, c2, c3] := by
  have h21 : List.drop 21 p = [] := List.drop_eq_nil_of_le (by omega)
  simp [List.drop_append, hp, h21]
 rw [hA, d0] at h0
 rw [hB, d1] at h1
 rw [hW, d2] at h2
 obtain ⟨m, hm, rfl⟩ := trod_addr h0 hp
 obtain ⟨s, rfl⟩ := trod_bool1 h1
 obtain ⟨v, hv, rfl, rfl, rfl, rfl⟩ := trod_word_k h2
 exact ⟨⟨m, s, v⟩, ⟨hm, hv⟩, rfl⟩
theorem trod_keys {H : Type} {enc : TypeId × Value → H} {W : World} {b : Nat} {sp : Nat → Bool} {held : Bool} {fuel : Nat} {v : Value} {d : DataW H × List MemPlace}
  (hf : DataW.trod enc Tryd.prog W b sp held fuel 28 [v] = some d) : ∃ l, KeysAt W v l := by
 rcases open_slice Tryd.underlying28 hf with ⟨hcs, _⟩ | ⟨a, len, cap, m, n, D, Pl, hcs, _, hl, hm, hmm, _, hi⟩
 ·simp at hcs
  subst hcs
  exact ⟨[], KeysAt.nil W⟩
 ·simp at hcs
  subst hcs
  have hlm : len ≤ m := by rw [hmm]; split <;> omega
  have key : ∀ i, i < len → ∃ y : Ky, KyOk y ∧ ∀ (j : Nat) (u : Value), (kyL y)[j]? = some u → W.cell? ((a.add (i * 25)).add j) = some u := by
   intro i hil
   obtain ⟨cs', hc, ht⟩ := hi i (by omega)
   rw [cellsKey] at hc
   obtain ⟨_, hcl, hat⟩ := World.cells?_some hc
   obtain ⟨y, h1, rfl⟩ := trod_key ht hcl
   refine ⟨y, h1, fun j u hj => ?_⟩
   have hj25 : j < 25 := by
    have := (List.getElem?_eq_some_iff.1 hj).1
    omega
   rw [hat j hj25]
   exact hj
  have hch : ∃ f : Nat → Ky, ∀ i, i < len → KyOk (f i) ∧ ∀ (j : Nat) (u : Value), (kyL (f i))[j]? = some u → W.cell? ((a.add (i * 25)).add j) = some u := by
   refine ⟨fun i => if h : i < len then Classical.choose (key i h) else ⟨0, false, 0⟩, fun i h => ?_⟩
   simp only [dif_pos h]
   exact Classical.choose_spec (key i h)
  obtain ⟨f, hf'⟩ := hch
  have hmax : maxLen ≤ 9223372036854775807 := by decide
  refine ⟨(List.range len).map f, some a, cap, by simp, by simpa using hl, by omega, fun x hx => ?_, fun i p hp => ?_⟩
  ·obtain ⟨i, hi', rfl⟩ := List.mem_map.1 hx
   exact (hf' i (List.mem_range.1 hi')).1
  ·obtain ⟨hlt, he⟩ := List.getElem?_eq_some_iff.1 hp
   simp at hlt he
   subst he
   exact ⟨a, rfl, (hf' i hlt).2⟩
theorem cellsKeys : Tryd.prog.cellsOf 28 = 1 := by kernel_rfl
theorem cellsSets : Tryd.prog.cellsOf 30 = 2 := by kernel_rfl
theorem open_sets {H : Type} {enc : TypeId × Value → H} {W : World} {base b : Nat} {sp : Nat → Bool} {held : Bool} {v : Value} {d : DataW H} {ps : List MemPlace}
  (hval : Value.okWide Tryd.prog W .any base 30 v) (hd : DataW.Trod enc Tryd.prog W b sp held 30 v d ps) : ∃ r s, SetsAt W v r s := by
 obtain ⟨cs, rfl, hsz⟩ := okWide_struct Tryd.underlying30 hval
 rw [cellsSets] at hsz
 obtain ⟨l⟩ := cs
 obtain ⟨x, y, rfl⟩ : ∃ x y, l = [x, y] := by
  match l, hsz with
  | [a, b], _ => exact ⟨a, b, rfl⟩
 obtain ⟨fuel, hf⟩ := hd
 have hf : DataW.trod enc Tryd.prog W b sp held fuel 30 [x, y] = some (d, ps) := hf
 obtain ⟨ys, n, _, _, _, hyl, hg⟩ := DataW.trod_struct Tryd.underlying30 hf
 have hC := cellsKeys
 have h0 := hg 0 _ rfl
 have h1 := hg 1 _ rfl
 have h0 : DataW.trod enc Tryd.prog W b sp held n 28 (([x, y].drop 0).take (Tryd.prog.cellsOf 28)) = ys[0]? := h0
 have h1 : DataW.trod enc Tryd.prog W b sp held n 28 (([x, y].drop 1).take (Tryd.prog.cellsOf 28)) = ys[1]? := h1
 rw [hC] at h0 h1
 obtain ⟨y0, y1, rfl⟩ : ∃ a b, ys = [a, b] := by
  match ys, hyl with
  | [a, b], _ => exact ⟨a, b, rfl⟩
 obtain ⟨r, hr⟩ := trod_keys (v := x) h0
 obtain ⟨s, hs⟩ := trod_keys (v := y) h1
 exact ⟨r, s, _, _, rfl, hr, hs⟩
end
end Go.Proofs.YtlihnlkcgiopoaaDoor
