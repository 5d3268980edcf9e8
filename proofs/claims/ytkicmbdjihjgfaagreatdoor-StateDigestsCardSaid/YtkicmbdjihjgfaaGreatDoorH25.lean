/- Part. -/
import Derived.Test.YtkicmbdjihjgfaaGreatDoorH16
import Derived.Test.YtkicmbdjihjgfaaGreatDoorH24
import Derived.Test.YtkicmbdjihjgfaaGreatDoorH10
import Derived.Test.YtkicmbdjihjgfaaGreatDoorH03
import Derived.Test.YtkicmbdjihjgfaaGreatDoorH23
import Derived.Test.YtkicmbdjihjgfaaGreatDoorH13
import Derived.Deep.Upon
set_option maxRecDepth 100000
set_option maxHeartbeats 16000000
namespace Go.Proofs.YtkicmbdjihjgfaaGreatDoor
section
open Go Go.RowKit
attribute [local go_sem] Oper.semAt_some Grows wide_fn eq4
theorem refEmpty_any8 (W : World) (x : Ac) (sv : Value) (hx : AcOk x) (hs : SlotsAt W sv x.slots) :
  Calls Tryz.prog 15 #[.agg (acC x sv)] W fun e w' => e = .returned (.bool (emptyB x)) ∧ Below W.heap.size W w' := by
 have B := Has.new W 31 (acC x sv)
 have Q := hid (newA W (.cells (acC x sv) 31))
 obtain ⟨a, cap, rfl, hn, hc⟩ := hs.shape
 obtain ⟨c0, c1, c2, c3, c4, c5, c6⟩ := B.acc
 have hz := zero_w x.bal hx.bal
 have HRES := hid (show emptyB x = (decide (x.bal = 0) && (decide (x.non = 0) && (decide (x.code.size = 0) && decide (x.slots.length = 0)))) from rfl)
 have hno := hx.non
 unfold I64 at hno
 have hcs := no_bytes x.code
 generalize emptyB x = res at *
 generalize acC x (.slice a x.slots.length cap) = cs at *
 generalize x.slots.length = n at *
 generalize lim x.bal 0 = l0 at *
 generalize lim x.bal 1 = l1 at *
 generalize lim x.bal 2 = l2 at *
 generalize lim x.bal 3 = l3 at *
 generalize x.non = no at *
 generalize x.code = code at *
 replace B := hid B
 replace hcs := hid hcs
 clear hs hx
 have hn0 : (0 : Int) ≤ (n : Int) := by omega
 by_cases h1 : x.bal = 0
 ·rw [decide_eq_true h1] at hz HRES
  clear h1
  by_cases h2 : no = 0
  ·have h2I : (no == 0) = true := by simp [h2]
   rw [decide_eq_true h2] at HRES
   clear h2
   by_cases h3 : code.size = 0
   ·have h3I : code.toList.isEmpty = true := (hcs.out).trans (decide_eq_true h3)
    rw [decide_eq_true h3] at HRES
    clear h3
    by_cases h4 : n = 0
    ·subst h4
     rw [decide_eq_true rfl] at HRES
     go_enter Tryz.func15, Tryz.ntmps15
     go_wp2_with fail
     go_ret
     exact ⟨by rw [HRES.out]; rfl, Q.out⟩
    ·have h4I : ((n : Int) == 0) = false := by rw [beq_eq_false_iff_ne]; omega
     rw [decide_eq_false h4] at HRES
     clear h4
     go_enter Tryz.func15, Tryz.ntmps15
     go_wp2_with fail
     go_ret
     exact ⟨by rw [HRES.out]; rfl, Q.out⟩
   ·have h3I : code.toList.isEmpty = false := (hcs.out).trans (decide_eq_false h3)
    rw [decide_eq_false h3] at HRES
    clear h3
    go_enter Tryz.func15, Tryz.ntmps15
    go_wp2_with fail
    go_ret
    exact ⟨by rw [HRES.out]; rfl, Q.out⟩
  ·have h2I : (no == 0) = false := by rw [beq_eq_false_iff_ne]; exact h2
   rw [decide_eq_false h2] at HRES
   clear h2
   go_enter Tryz.func15, Tryz.ntmps15
   go_wp2_with fail
   go_ret
   exact ⟨by rw [HRES.out]; rfl, Q.out⟩
 ·rw [decide_eq_false h1] at hz HRES
  clear h1
  go_enter Tryz.func15, Tryz.ntmps15
  go_wp2_with fail
  go_ret
  exact ⟨by rw [HRES.out]; rfl, Q.out⟩
theorem refMay_any8 (W : World) (x : Ac) (sv : Value) (hx : AcOk x) (hs : SlotsAt W sv x.slots) :
  Calls Tryz.prog 32 #[.agg (acC x sv)] W fun e w' => e = .returned (.bool (mayB x)) ∧ Below W.heap.size W w' := by
 have B := Has.new W 31 (acC x sv)
 have hq := newA W (.cells (acC x sv) 31)
 have Q := hid hq
 obtain ⟨c0, c1, c2, c3, c4, c5, c6⟩ := B.acc
 have HC := hid (refRight_any _ sv x.slots (hs.later hq))
 have HRES := hid (show mayB x = (decide (0 ≤ x.non) && (decide (x.non ≤ 9007199254740992) && (decide (x.code.size ≤ 24576) && rightB' x.slots))) from rfl)
 have hcs := hx.code
 generalize mayB x = res at *
 generalize rightB' x.slots = rb at *
 generalize acC x sv = cs at *
 generalize x.non = no at *
 generalize x.code = code at *
 replace B := hid B
 clear hs hx hq
 have hcI : (code.size : Int) ≤ 140737488355328 := by omega
 clear hcs
 by_cases h1 : 0 ≤ no
 ·rw [decide_eq_true h1] at HRES
  by_cases h2 : no ≤ 9007199254740992
  ·rw [decide_eq_true h2] at HRES
   by_cases h3 : code.size ≤ 24576
   ·rw [decide_eq_true h3] at HRES
    have h3I : (code.size : Int) ≤ 24576 := by omega
    clear h3
    go_enter Tryz.func32, Tryz.ntmps32
    go_wp2_with fail
    refine HC.out.mono ?_
    rintro _ w1 ⟨rfl, hb⟩
    have QE := hid (Q.out.trans (hb.mono Q.out.size))
    clear hb HC
    go_wp2_with fail
    go_ret
    exact ⟨by rw [HRES.out]; rfl, QE.out⟩
   ·rw [decide_eq_false h3] at HRES
    have h3I : ¬ (code.size : Int) ≤ 24576 := by omega
    clear h3
    go_enter Tryz.func32, Tryz.ntmps32
    go_wp2_with fail
    go_ret
    exact ⟨by rw [HRES.out]; rfl, Q.out⟩
  ·rw [decide_eq_false h2] at HRES
   go_enter Tryz.func32, Tryz.ntmps32
   go_wp2_with fail
   go_ret
   exact ⟨by rw [HRES.out]; rfl, Q.out⟩
 ·rw [decide_eq_false h1] at HRES
  go_enter Tryz.func32, Tryz.ntmps32
  go_wp2_with fail
  go_ret
  exact ⟨by rw [HRES.out]; rfl, Q.out⟩
theorem adB_step (n k : Nat) (h : k < 20) : n / 256 ^ (19 - k) = 256 * (n / 256 ^ (20 - k)) + adB n k := by
 unfold adB
 have e : 256 ^ (20 - k) = 256 ^ (19 - k) * 256 := by rw [show 20 - k = 19 - k + 1 by omega, Nat.pow_succ]
 rw [e, ← Nat.div_div_eq_div_mul]
 omega
theorem ad_same {a b : Nat} (ha : a < 256 ^ 20) (hb : b < 256 ^ 20) : ∀ k, k ≤ 20 → (∀ j, j < k → adB a j = adB b j) → a / 256 ^ (20 - k) = b / 256 ^ (20 - k)
 | 0, _, _ => by rw [Nat.div_eq_of_lt ha, Nat.div_eq_of_lt hb]
 | k + 1, hk, h => by
  have ih := ad_same ha hb k (by omega) (fun j hj => h j (by omega))
  rw [show 20 - (k + 1) = 19 - k by omega, adB_step a k (by omega), adB_step b k (by omega), ih, h k (by omega)]
theorem ad_less {a b k : Nat} (ha : a < 256 ^ 20) (hb : b < 256 ^ 20) (hk : k < 20) (h : ∀ j, j < k → adB a j = adB b j) (hne : adB a k ≠ adB b k) : a < b ↔ adB a k < adB b k := by
 have e := ad_same ha hb k (by omega) h
 have h1 := adB_step a k hk
 have h2 := adB_step b k hk
 rw [e] at h1
 have hp : 0 < 256 ^ (19 - k) := Nat.pow_pos (by decide)
 constructor
 ·intro hab
  have := Nat.div_le_div_right (c := 256 ^ (19 - k)) (Nat.le_of_lt hab)
  omega
 ·intro hd
  rcases Nat.lt_or_ge a b with h' | h'
  ·exact h'
  ·have := Nat.div_le_div_right (c := 256 ^ (19 - k)) h'
   omega
theorem ad_equal {a b : Nat} (ha : a < 256 ^ 20) (hb : b < 256 ^ 20) (h : ∀ j, j < 20 → adB a j = adB b j) : a = b := by
 have := ad_same ha hb 20 (Nat.le_refl _) h
 simpa using this
theorem refLess_any8 (W : World) (a b : Nat) (ha : a < 256 ^ 20) (hb : b < 256 ^ 20) :
  Calls Tryz.prog 33 #[.agg (adC a), .agg (adC b)] W fun e w' => e = .returned (.bool (decide (a < b))) ∧ Below W.heap.size W w' := by
 have hmx : Tryz.prog.follows .mixedOrders = true := by kernel_rfl
 have K1 := (Has.new W 25 (adC a)).alloc (.cells (adC b) 25)
 have K2 := Has.new (W.alloc (.cells (adC a) 25)) 25 (adC b)
 simp only [World.size_alloc] at K2
 have q0 := (newA W (.cells (adC a) 25)).alloc (by simp) (.cells (adC b) 25)
 obtain ⟨V, hV⟩ : ∃ V, (W.alloc (.cells (adC a) 25)).alloc (.cells (adC b) 25) = V := ⟨_, rfl⟩
 rw [hV] at K1 K2 q0
 have HA := hid ha
 have HB := hid hb
 have Q := hid q0
 have HK1 := hid K1
 have HK2 := hid K2
 generalize hca : adC a = ca at *
 generalize hcb : adC b = cb at *
 replace hca := hid hca
 replace hcb := hid hcb
 clear K1 K2 q0 ha hb
 obtain ⟨Post, hPost⟩ : ∃ Post : Ending → World → Prop, (fun (e : Ending) (w' : World) => e = .returned (.bool (decide (a < b))) ∧ Below W.heap.size W w') = Post := ⟨_, rfl⟩
 have HF := hid (show ∀ X r, (r = true ↔ a < b) → Below W.heap.size W X → Post (.returned (.bool r)) X from fun X r h hX => by
  rw [← hPost]
  refine ⟨?_, hX⟩
  congr 2
  rw [Bool.eq_iff_iff, h, decide_eq_true_eq])
 rw [hPost]
 clear hPost
 go_enter Tryz.func33, Tryz.ntmps33
 go_wp2_with fail
 clear hV
 go_loopw [5] (fun i wr => ∃ k : Nat, k ≤ 20 ∧ i = .int .i64 (k : Int) ∧ (∀ j, j < k → adB a j = adB b j) ∧ Below V.heap.size V wr) (fun i _ => 20 - (intOf i).toNat)
 case atStart => exact ⟨0, by omega, rfl, fun j h => absurd h (by omega), Below.refl _ _⟩
 case round =>
  obtain ⟨k, hk, rfl, hlt, hq⟩ := hrel
  have HLT := hid hlt
  have HQ := hid hq
  have HKK := hid hk
  have hk0 : (0 : Int) ≤ (k : Int) := by omega
  have hkb : (k : Int) ≤ 20 := by omega
  clear hlt hq
  by_cases hkn : k < 20
  ·have hkI : (k : Int) < 20 := by omega
   have ga : ca[k]? = some (.int .u8 ((adB a k : Nat) : Int)) := by rw [← hca.out]; exact adC_get a k hkn
   have gb : cb[k]? = some (.int .u8 ((adB b k : Nat) : Int)) := by rw [← hcb.out]; exact adC_get b k hkn
   have c1 : ∀ z : Ext wr, z.w.cell? ⟨W.heap.size, k, none⟩ = some (.int .u8 ((adB a k : Nat) : Int)) := fun z => ((HK1.out.later HQ.out).later z.below).cell k _ ga
   have c2 : ∀ z : Ext wr, z.w.cell? ⟨W.heap.size + 1, k, none⟩ = some (.int .u8 ((adB b k : Nat) : Int)) := fun z => ((HK2.out.later HQ.out).later z.below).cell k _ gb
   have HN := hid hkn
   have HCM := hid (fun h => ad_less HA.out HB.out hkn HLT.out h)
   clear hk hkn ga gb
   by_cases hd : adB a k = adB b k
   ·have hdb : (((adB a k : Nat) : Int) == ((adB b k : Nat) : Int)) = true := by simp [hd]
    have HD := hid hd
    clear hd
    go_wp2_with fail
    refine wp_region_quietL (C := Grows wr) hmx (by kernel_rfl) (grows_refl wr) ?_
    repeat (go_big_quiet_step (fail))
    refine wpQuiet_nil ?_
    rintro _ ⟨z, rfl⟩
    have HE := hid (HQ.out.trans (z.below.mono HQ.out.size))
    clear c1 c2
    go_wp2_with fail
    go_roundw
    case rel => exact ⟨k + 1, by have := HN.out; omega, by simp, fun j hj => by
     rcases Nat.lt_or_ge j k with h | h
     ·exact HLT.out j h
     ·obtain rfl : j = k := by omega
      exact HD.out, HE.out⟩
    case measure => have := HN.out; simp [intOf]; omega
   ·have hdb : (((adB a k : Nat) : Int) == ((adB b k : Nat) : Int)) = false := by simp; omega
    have HL := hid (HCM.out hd)
    clear hd
    go_wp2_with fail
    refine wp_region_quietL (C := Grows wr) hmx (by kernel_rfl) (grows_refl wr) ?_
    repeat (go_big_quiet_step (fail))
    refine wpQuiet_nil ?_
    rintro _ ⟨z, rfl⟩
    have HE := hid (HQ.out.trans (z.below.mono HQ.out.size))
    have d1 : ∀ y : Ext z.w, y.w.cell? ⟨W.heap.size, k, none⟩ = some (.int .u8 ((adB a k : Nat) : Int)) := fun y => (cell_below y.below _ _ (c1 z))
    have d2 : ∀ y : Ext z.w, y.w.cell? ⟨W.heap.size + 1, k, none⟩ = some (.int .u8 ((adB b k : Nat) : Int)) := fun y => (cell_below y.below _ _ (c2 z))
    clear c1 c2
    go_wp2_with fail
    refine wp_region_quietL (C := Grows z.w) hmx (by kernel_rfl) (grows_refl z.w) ?_
    repeat (go_big_quiet_step (fail))
    refine wpQuiet_nil ?_
    rintro _ ⟨y, rfl⟩
    have HE2 := hid (HE.out.trans (y.below.mono HE.out.size))
    clear d1 d2
    go_wp2_with fail
    exact HF.out _ _ (by rw [decide_eq_true_eq, HL.out]) (Q.out.trans (HE2.out.mono Q.out.size))
  ·obtain rfl : k = 20 := by omega
   have hkk : ¬ ((20 : Nat) : Int) < 20 := by decide
   have hab := hid (show (false = true ↔ a < b) by
    have := ad_equal HA.out HB.out HLT.out
    simp
    omega)
   go_wp2_with fail
   exact HF.out _ _ hab.out (Q.out.trans (HQ.out.mono Q.out.size))

end
section
open Go Go.RowKit
attribute [local go_sem] Oper.semAt_some Grows wide_fn
theorem listF_wide (w : Pr → Option Nat) (hw : ∀ p v, w p = some v → v = p.fst ∨ v = p.snd) (a b : List Sl) (ha : ∀ x ∈ a, W256 x.1 ∧ W256 x.2) (hb : ∀ x ∈ b, W256 x.1 ∧ W256 x.2) : ∀ x ∈ listF w (bothL a b), W256 x.1 ∧ W256 x.2 := by
 intro x hx
 unfold listF at hx
 obtain ⟨p, hp, e⟩ := List.mem_filterMap.1 hx
 have h := bothL_wide a b ha hb p hp
 rcases hv : w p with _ | v
 ·rw [hv] at e; cases e
 ·rw [hv] at e
  injection e with e
  subst e
  refine ⟨h.1, ?_⟩
  rcases hw p v hv with rfl | rfl
  ·exact h.2.1
  ·exact h.2.2
theorem mergeL_wide (a b : List Sl) (ha : ∀ x ∈ a, W256 x.1 ∧ W256 x.2) (hb : ∀ x ∈ b, W256 x.1 ∧ W256 x.2) : ∀ x ∈ mergeL a b, W256 x.1 ∧ W256 x.2 :=
 listF_wide _ (fun p v h => by
  rcases p with ⟨k, f, s, i⟩
  cases i
  ·simp [behindF] at h
   exact .inl h.2.symm
  ·simp [behindF] at h
   exact .inr h.2.symm) a b ha hb
end
section
open Go Go.RowKit
variable {W : World} {out : List Sl} {ic im ie ia : Nat} {f : Nat → Bool} {g : Nat → Value} {y : World}
theorem putL_wide {l : List Sl} {x : Sl} (hl : ∀ x ∈ l, W256 x.1 ∧ W256 x.2) (hx : W256 x.1 ∧ W256 x.2) : ∀ y ∈ putL l x, W256 y.1 ∧ W256 y.2 :=
 mergeL_wide l [x] hl (fun y hy => by simp at hy; subst hy; exact hx)
theorem take_snoc {l : List Sl} {k : Nat} {x : Sl} (h : l[k]? = some x) : l.take (k + 1) = l.take k ++ [x] := by
 rw [List.take_add_one, h]
 rfl
theorem putsL_take {a l : List Sl} {k : Nat} {x : Sl} (h : l[k]? = some x) : mergeL (putsL a (l.take k)) [x] = putsL a (l.take (k + 1)) := by
 rw [take_snoc h, putsL_snoc]
 rfl
theorem putsL_short (a l : List Sl) (k : Nat) : (putsL a (l.take k)).length ≤ a.length + l.length := by
 have h1 := putsL_len a (l.take k)
 have h2 : (l.take k).length ≤ l.length := by rw [List.length_take]; omega
 omega
end
section
open Go Go.RowKit
attribute [local go_sem] Oper.semAt_some Grows wide_fn eq4
theorem lk_append (a b : List Sl) (q : Nat) : lk (a ++ b) q = match lk a q with | some v => some v | none => lk b q := by
 induction a with
 | nil => rfl
 | cons x r ih =>
  rw [List.cons_append, lk, lk]
  by_cases h : x.1 = q
  ·rw [if_pos h, if_pos h]
  ·rw [if_neg h, if_neg h, ih]
theorem lk_one (y : Sl) (q : Nat) : lk [y] q = if y.1 = q then some y.2 else none := rfl
theorem wcmp_gt (a b : Nat) : 0 < wcmp a b ↔ b < a := by
 unfold wcmp
 split
 ·exact ⟨fun h => absurd h (by decide), fun h => by omega⟩
 ·split
  ·exact ⟨fun _ => ‹_›, fun _ => by decide⟩
  ·exact ⟨fun h => absurd h (by decide), fun h => absurd h ‹_›⟩
def nz (v : Nat) : Option Nat := if v = 0 then none else some v
theorem lk_putL {l : List Sl} (hl : Kept l) (k v q : Nat) : lk (mergeL l [(k, v)]) q = if q = k then nz v else lk l q := by
 have h1 := look_lk (putL_kept hl.1 (k, v)) q
 rw [look_putL hl] at h1
 have h2 : putL l (k, v) = mergeL l [(k, v)] := rfl
 rw [h2] at h1
 rw [h1]
 show (if (if k = q then v else look l q) = 0 then none else some (if k = q then v else look l q)) = _
 by_cases h : k = q
 ·simp only [if_pos h, if_pos h.symm]
  rfl
 ·simp only [if_neg h, if_neg (show ¬ q = k from fun e => h e.symm)]
  exact (look_lk hl q).symm
structure PutI (k v : Nat) (l : List Sl) (m : Nat) (now : List Sl) (dn : Bool) : Prop where
 rise : Rise now
 len : now.length ≤ m + 1
 ahead : ∀ y ∈ now, ∀ (j : Nat) (z : Sl), m ≤ j → l[j]? = some z → y.1 < z.1
 notyet : dn = false → now.length ≤ m ∧ v ≠ 0 ∧ ∀ y ∈ now, y.1 < k
 yet : dn = true → v ≠ 0 → ∀ (j : Nat) (z : Sl), m ≤ j → l[j]? = some z → k < z.1
 look : ∀ q, lk now q = if q = k then (if dn = true then nz v else none) else lk (l.take m) q
variable {k v : Nat} {l now : List Sl} {m : Nat} {dn : Bool} {y : Sl}
theorem PutI.start (k v : Nat) (l : List Sl) : PutI k v l 0 [] (decide (v = 0)) :=
 ⟨by unfold Rise; simp, by simp, by simp, fun h => ⟨by simp, of_decide_eq_false h, by simp⟩, fun h h0 => absurd (of_decide_eq_true h) h0, fun q => by
  rw [List.take_zero]
  show none = _
  by_cases h : q = k
  ·rw [if_pos h]
   by_cases hv : v = 0
   ·rw [decide_eq_true hv, if_pos rfl]; unfold nz; rw [if_pos hv]
   ·rw [decide_eq_false hv]; rfl
  ·rw [if_neg h]; rfl⟩
theorem lk_take_snoc (hl : Rise l) (hy : l[m]? = some y) (q : Nat) : lk (l.take (m + 1)) q = if q = y.1 then some y.2 else lk (l.take m) q := by
 rw [take_snoc hy, lk_append, lk_one]
 by_cases h : q = y.1
 ·rw [if_pos h]
  have : lk (l.take m) q = none := lk_none (fun x hx e => by
   obtain ⟨j, hj⟩ := List.getElem?_of_mem hx
   rw [List.getElem?_take] at hj
   split at hj
   ·have := rise_lt_at hl hj hy ‹_›
    omega
   ·cases hj)
  rw [this]
  show (if y.1 = q then some y.2 else none) = _
  rw [if_pos h.symm]
 ·rw [if_neg h, if_neg (fun e => h e.symm)]
  cases lk (l.take m) q <;> rfl
theorem PutI.skip (h : PutI k v l m now dn) (hl : Rise l) (hy : l[m]? = some y) (hk : y.1 = k) : PutI k v l (m + 1) now dn :=
 ⟨h.rise, by have := h.len; omega, fun a ha j z hj hz => h.ahead a ha j z (by omega) hz, fun e => ⟨by have := (h.notyet e).1; omega, (h.notyet e).2⟩, fun e e0 j z hj hz => h.yet e e0 j z (by omega) hz, fun q => by
  rw [h.look, lk_take_snoc hl hy]
  by_cases hq : q = k
  ·rw [if_pos hq, if_pos hq]
  ·rw [if_neg hq, if_neg hq, if_neg (by rw [hk]; exact hq)]⟩
theorem PutI.stay (h : PutI k v l m now dn) (hl : Rise l) (hy : l[m]? = some y) (hk : y.1 ≠ k) (hd : dn = false → y.1 < k) : PutI k v l (m + 1) (now ++ [y]) dn :=
 ⟨h.rise.snoc (fun a ha => h.ahead a ha m y (Nat.le_refl _) hy), by have := h.len; simp; omega, fun a ha j z hj hz => by
  rcases List.mem_append.1 ha with ha | ha
  ·exact h.ahead a ha j z (by omega) hz
  ·simp at ha; subst ha
   exact rise_lt_at hl hy hz (by omega), fun e => ⟨by have := (h.notyet e).1; simp; omega, (h.notyet e).2.1, fun a ha => by
  rcases List.mem_append.1 ha with ha | ha
  ·exact (h.notyet e).2.2 a ha
  ·simp at ha; subst ha; exact hd e⟩, fun e e0 j z hj hz => h.yet e e0 j z (by omega) hz, fun q => by
  rw [lk_append, h.look, lk_take_snoc hl hy, lk_one]
  by_cases hq : q = k
  ·rw [if_pos hq, if_pos hq, if_neg (show ¬ y.1 = q by rw [hq]; exact hk)]
   cases (if dn = true then nz v else none : Option Nat) <;> rfl
  ·rw [if_neg hq, if_neg hq]
   by_cases hy1 : q = y.1
   ·rw [if_pos hy1, if_pos hy1.symm]
    have : lk (l.take m) q = none := lk_none (fun x hx e => by
     obtain ⟨j, hj⟩ := List.getElem?_of_mem hx
     rw [List.getElem?_take] at hj
     split at hj
     ·have := rise_lt_at hl hj hy ‹_›
      omega
     ·cases hj)
    rw [this]
   ·rw [if_neg hy1, if_neg (fun e => hy1 e.symm)]
    cases lk (l.take m) q <;> rfl⟩
theorem PutI.put (h : PutI k v l m now false) (hl : Rise l) (hb : ∀ (j : Nat) (z : Sl), m ≤ j → l[j]? = some z → k < z.1) : PutI k v l m (now ++ [(k, v)]) true :=
 ⟨h.rise.snoc (h.notyet rfl).2.2, by have := (h.notyet rfl).1; simp; omega, fun a ha j z hj hz => by
  rcases List.mem_append.1 ha with ha | ha
  ·exact h.ahead a ha j z hj hz
  ·simp at ha; subst ha; exact hb j z hj hz, fun e => by (cases e), fun _ _ => hb, fun q => by
  rw [lk_append, h.look, lk_one]
  by_cases hq : q = k
  ·rw [if_pos hq, if_pos hq]
   show (match (none : Option Nat) with | some v => some v | none => if k = q then some v else none) = nz v
   rw [if_pos hq.symm]
   unfold nz
   rw [if_neg (h.notyet rfl).2.1]
  ·rw [if_neg hq, if_neg hq]
   show (match lk (l.take m) q with | some v => some v | none => if k = q then some v else none) = _
   rw [if_neg (fun e => hq e.symm)]
   cases lk (l.take m) q <;> rfl⟩
theorem PutI.done (h : PutI k v l l.length now true) (hl : Kept l) : now = mergeL l [(k, v)] :=
 lk_ext h.rise (mergeL_kept hl.1 (by unfold Rise; simp)).1 (fun q => by
  rw [h.look, lk_putL hl, List.take_length]
  rfl)
theorem beyond (hl : Rise l) (hy : l[m]? = some y) (hk : k < y.1) : ∀ (j : Nat) (z : Sl), m ≤ j → l[j]? = some z → k < z.1 := fun j z hj hz => by
 rcases Nat.lt_or_eq_of_le hj with hj | rfl
 ·exact Nat.lt_trans hk (rise_lt_at hl hy hz hj)
 ·rw [hy] at hz; injection hz with hz; subst hz; exact hk
theorem refPutOne_any (W : World) (sv : Value) (l : List Sl) (hs : SlotsAt W sv l) (hl : Kept l) (hlen : l.length ≤ 2000) (k v : Nat) (hk : W256 k) (hv : W256 v) :
  Calls Tryz.prog 93 #[sv, wv k, wv v] W fun e w' => ∃ rv, e = .returned rv ∧ RowT w' W.heap.size rv (mergeL l [(k, v)]) ∧ Below W.heap.size W w' := by
 have hmx : Tryz.prog.follows .mixedOrders = true := by kernel_rfl
 obtain ⟨a, cap, rfl, hnc, hcm⟩ := hs.shape
 have HS := hid hs
 obtain ⟨n, hn⟩ : ∃ n, l.length = n := ⟨_, rfl⟩
 rw [hn] at HS hnc hlen ⊢
 have HN := hid hn
 have HL := hid (And.intro hl hlen)
 have HKV := hid (And.intro hk hv)
 clear hs hnc hcm hn hl hlen hk hv
 unfold wv
 have K0 := (Has.new W 28 #[.int .u64 (lim k 0), .int .u64 (lim k 1), .int .u64 (lim k 2), .int .u64 (lim k 3)]).alloc (.cells #[.int .u64 (lim v 0), .int .u64 (lim v 1), .int .u64 (lim v 2), .int .u64 (lim v 3)] 28)
 have Z0 := Has.new (W.alloc (.cells #[.int .u64 (lim k 0), .int .u64 (lim k 1), .int .u64 (lim k 2), .int .u64 (lim k 3)] 28)) 28 #[.int .u64 (lim v 0), .int .u64 (lim v 1), .int .u64 (lim v 2), .int .u64 (lim v 3)]
 simp only [World.size_alloc] at Z0
 have q0 := (newA W (.cells #[.int .u64 (lim k 0), .int .u64 (lim k 1), .int .u64 (lim k 2), .int .u64 (lim k 3)] 28)).alloc (by simp) (.cells #[.int .u64 (lim v 0), .int .u64 (lim v 1), .int .u64 (lim v 2), .int .u64 (lim v 3)] 28)
 obtain ⟨V, hV⟩ : ∃ V, (W.alloc (.cells #[.int .u64 (lim k 0), .int .u64 (lim k 1), .int .u64 (lim k 2), .int .u64 (lim k 3)] 28)).alloc (.cells #[.int .u64 (lim v 0), .int .u64 (lim v 1), .int .u64 (lim v 2), .int .u64 (lim v 3)] 28) = V := ⟨_, rfl⟩
 rw [hV] at K0 Z0 q0
 have z0 := Z0.cell 0 _ rfl
 have z1 := Z0.cell 1 _ rfl
 have z2 := Z0.cell 2 _ rfl
 have z3 := Z0.cell 3 _ rfl
 have KK := hid K0
 have ZZ := hid Z0
 have HSV := hid (HS.out.later q0)
 have Q := hid q0
 have hz := zero_w v HKV.out.2
 obtain ⟨dv, hdv⟩ : ∃ b, decide (v = 0) = b := ⟨_, rfl⟩
 rw [hdv] at hz
 have HDV := hid hdv
 clear K0 Z0 q0 HS hdv
 go_enter Tryz.func93, Tryz.ntmps93
 go_wp2_with fail
 clear hV z0 z1 z2 z3
 go_loopw [7, 8, 9] (fun u d i wr => ∃ (m : Nat) (now : List Sl) (dn : Bool), m ≤ n ∧ d = .bool dn ∧ i = .int .i64 (m : Int) ∧ PutI k v l m now dn ∧ RowT wr V.heap.size u now ∧ Below V.heap.size V wr) (fun _ _ i _ => n - (intOf i).toNat)
 case atStart => exact ⟨0, [], dv, by omega, (by first | rfl | rw [hz]), rfl, HDV.out ▸ PutI.start k v l, ⟨rfl, .inl ⟨rfl, rfl⟩⟩, Below.refl _ _⟩
 case round =>
  obtain ⟨m, now, dn, hm, rfl, rfl, hins, hrow, hq⟩ := hrel
  clear hz
  have HINS := hid hins
  have HR := hid hrow
  have HQ := hid hq
  have QW := hid (Q.out.trans (hq.mono Q.out.size))
  have HCK := hid (fun (X : World) (hX : Below V.heap.size V X) => KK.out.later hX)
  have HCV := hid (fun (X : World) (hX : Below V.heap.size V X) => ZZ.out.later hX)
  clear hins hrow hq
  by_cases hmn : m < n
  ·have hmI : (m : Int) < (n : Int) := by omega
   have hm0 : (0 : Int) ≤ (m : Int) := by omega
   have hmb : (m : Int) ≤ 2000 := by have := HL.out.2; omega
   obtain ⟨y, hy⟩ : ∃ y, l[m]? = some y := ⟨_, List.getElem?_eq_getElem (by have := HN.out; omega)⟩
   obtain ⟨b, rfl, _⟩ := (HSV.out.later HQ.out).at hy
   have wy := HSV.out.wide hy
   have HM := hid hmn
   have HY := hid (And.intro hy wy)
   have HCY := hid (fun (X : World) (hX : Below V.heap.size V X) => (HSV.out.later hX).at' hy)
   have CR0 := refCmp_ret y.1 k wy.1 HKV.out.1
   have HGT0 := wcmp_gt y.1 k
   have HEQ0 := eqv_w y.1 k wy.1 HKV.out.1
   unfold wv at CR0
   have CR := hid CR0
   have HGT := hid HGT0
   have HEQ := hid HEQ0
   clear hmn hm hy wy CR0 HGT0 HEQ0
   generalize wcmp y.1 k = cm at *
   have hnl := hid (show now.length ≤ 2001 from by have h := HINS.out.len; have := HL.out.2; have := HM.out; omega)
   by_cases hyk : y.1 = k
   ·replace HEQ := hid (HEQ.out.trans (decide_eq_true hyk))
    have HYK := hid hyk
    clear hyk
    have hEQ := HEQ.out
    have ky0 := fun z : Ext wr => (HCY.out z.w (HQ.out.trans (z.below.mono HQ.out.size))).1
    have kx0 := fun z : Ext wr => (HCK.out z.w (HQ.out.trans (z.below.mono HQ.out.size))).cell 0 _ rfl
    have ky1 := fun z : Ext wr => (HCY.out z.w (HQ.out.trans (z.below.mono HQ.out.size))).2.1
    have kx1 := fun z : Ext wr => (HCK.out z.w (HQ.out.trans (z.below.mono HQ.out.size))).cell 1 _ rfl
    have ky2 := fun z : Ext wr => (HCY.out z.w (HQ.out.trans (z.below.mono HQ.out.size))).2.2.1
    have kx2 := fun z : Ext wr => (HCK.out z.w (HQ.out.trans (z.below.mono HQ.out.size))).cell 2 _ rfl
    have ky3 := fun z : Ext wr => (HCY.out z.w (HQ.out.trans (z.below.mono HQ.out.size))).2.2.2.1
    have kx3 := fun z : Ext wr => (HCK.out z.w (HQ.out.trans (z.below.mono HQ.out.size))).cell 3 _ rfl
    go_wp2_with fail
    refine wp_region_quietL (C := Grows wr) hmx (by kernel_rfl) (grows_refl wr) ?_
    repeat (go_big_quiet_step (fail))
    refine wpQuiet_nil ?_
    rintro _ ⟨z1, rfl⟩
    have Q3 := hid (HQ.out.trans (z1.below.mono HQ.out.size))
    have R3 := hid (HR.out.later z1.below)
    try clear ky0 kx0 ky1 kx1 ky2 kx2 ky3 kx3
    go_wp2_with fail
    go_roundw
    case rel => exact ⟨m + 1, now, dn, by have := HM.out; omega, rfl, by simp, HINS.out.skip HL.out.1.1 HY.out.1 HYK.out, R3.out, Q3.out⟩
    case measure => have := HM.out; simp [intOf]; omega
   ·rcases dn with _ | _
    ·rcases Nat.lt_or_ge k y.1 with hlt | hge
     ·have hc : 0 < cm := HGT.out.2 hlt
      have HLT := hid hlt
      clear hlt
      replace HEQ := hid (HEQ.out.trans (decide_eq_false hyk))
      have HYK := hid hyk
      clear hyk
      have hEQ := HEQ.out
      have ky0 := fun z : Ext wr => (HCY.out z.w (HQ.out.trans (z.below.mono HQ.out.size))).1
      have kx0 := fun z : Ext wr => (HCK.out z.w (HQ.out.trans (z.below.mono HQ.out.size))).cell 0 _ rfl
      have ky1 := fun z : Ext wr => (HCY.out z.w (HQ.out.trans (z.below.mono HQ.out.size))).2.1
      have kx1 := fun z : Ext wr => (HCK.out z.w (HQ.out.trans (z.below.mono HQ.out.size))).cell 1 _ rfl
      have ky2 := fun z : Ext wr => (HCY.out z.w (HQ.out.trans (z.below.mono HQ.out.size))).2.2.1
      have kx2 := fun z : Ext wr => (HCK.out z.w (HQ.out.trans (z.below.mono HQ.out.size))).cell 2 _ rfl
      have ky3 := fun z : Ext wr => (HCY.out z.w (HQ.out.trans (z.below.mono HQ.out.size))).2.2.2.1
      have kx3 := fun z : Ext wr => (HCK.out z.w (HQ.out.trans (z.below.mono HQ.out.size))).cell 3 _ rfl
      go_wp2_with fail
      refine wp_region_quietL (C := Grows wr) hmx (by kernel_rfl) (grows_refl wr) ?_
      repeat (go_big_quiet_step (fail))
      refine wpQuiet_nil ?_
      rintro _ ⟨z1, rfl⟩
      have Q3 := hid (HQ.out.trans (z1.below.mono HQ.out.size))
      have R3 := hid (HR.out.later z1.below)
      try clear ky0 kx0 ky1 kx1 ky2 kx2 ky3 kx3
      have ky0 := fun z : Ext z1.w => (HCY.out z.w (Q3.out.trans (z.below.mono Q3.out.size))).1
      have kx0 := fun z : Ext z1.w => (HCK.out z.w (Q3.out.trans (z.below.mono Q3.out.size))).cell 0 _ rfl
      have ky1 := fun z : Ext z1.w => (HCY.out z.w (Q3.out.trans (z.below.mono Q3.out.size))).2.1
      have kx1 := fun z : Ext z1.w => (HCK.out z.w (Q3.out.trans (z.below.mono Q3.out.size))).cell 1 _ rfl
      have ky2 := fun z : Ext z1.w => (HCY.out z.w (Q3.out.trans (z.below.mono Q3.out.size))).2.2.1
      have kx2 := fun z : Ext z1.w => (HCK.out z.w (Q3.out.trans (z.below.mono Q3.out.size))).cell 2 _ rfl
      have ky3 := fun z : Ext z1.w => (HCY.out z.w (Q3.out.trans (z.below.mono Q3.out.size))).2.2.2.1
      have kx3 := fun z : Ext z1.w => (HCK.out z.w (Q3.out.trans (z.below.mono Q3.out.size))).cell 3 _ rfl
      go_wp2_with fail
      clear hEQ
      refine wp_region_quietL (C := Grows z1.w) hmx (by kernel_rfl) (grows_refl z1.w) ?_
      repeat (go_big_quiet_step (first | (with_reducible exact Ret.at CR.out _)))
      refine wpQuiet_nil ?_
      rintro _ ⟨z2, rfl⟩
      have Q4 := hid (Q3.out.trans (z2.below.mono Q3.out.size))
      have R4 := hid (R3.out.later z2.below)
      try clear ky0 kx0 ky1 kx1 ky2 kx2 ky3 kx3
      have p0 := (HCK.out z2.w Q4.out).cell 0 _ rfl
      have p1 := (HCK.out z2.w Q4.out).cell 1 _ rfl
      have p2 := (HCK.out z2.w Q4.out).cell 2 _ rfl
      have p3 := (HCK.out z2.w Q4.out).cell 3 _ rfl
      have p4 := (HCV.out z2.w Q4.out).cell 0 _ rfl
      have p5 := (HCV.out z2.w Q4.out).cell 1 _ rfl
      have p6 := (HCV.out z2.w Q4.out).cell 2 _ rfl
      have p7 := (HCV.out z2.w Q4.out).cell 3 _ rfl
      obtain ⟨v5, W5, hr0, hrw, hbw⟩ := push_slot z2.w V.heap.size (u7) now R4.out Q4.out.size (by have := hnl.out; (try simp only [List.length_append, List.length_cons, List.length_nil]); omega) (k, v)
      have hr : (Builtin.append_ #[29, 29] 29 #[u7, .slice (some ⟨z2.w.heap.size, 0, none⟩) 1 1]).run Tryz.prog (z2.w.alloc (.cells #[.int .u64 (lim k 0), .int .u64 (lim k 1), .int .u64 (lim k 2), .int .u64 (lim k 3), .int .u64 (lim v 0), .int .u64 (lim v 1), .int .u64 (lim v 2), .int .u64 (lim v 3)] 63)) = .ok v5 W5 := hr0
      have R5 := hid hrw
      have Q5 := hid (Q4.out.trans hbw)
      clear hr0 hrw hbw
      have r0 := (HCY.out W5 Q5.out).1
      have r1 := (HCY.out W5 Q5.out).2.1
      have r2 := (HCY.out W5 Q5.out).2.2.1
      have r3 := (HCY.out W5 Q5.out).2.2.2.1
      have r4 := (HCY.out W5 Q5.out).2.2.2.2.1
      have r5 := (HCY.out W5 Q5.out).2.2.2.2.2.1
      have r6 := (HCY.out W5 Q5.out).2.2.2.2.2.2.1
      have r7 := (HCY.out W5 Q5.out).2.2.2.2.2.2.2
      obtain ⟨v6, W6, hr0, hrw, hbw⟩ := push_slot W5 V.heap.size (v5) (now ++ [(k, v)]) R5.out Q5.out.size (by have := hnl.out; (try simp only [List.length_append, List.length_cons, List.length_nil]); omega) y
      have hr2 : (Builtin.append_ #[29, 29] 29 #[v5, .slice (some ⟨W5.heap.size, 0, none⟩) 1 1]).run Tryz.prog (W5.alloc (.cells #[.int .u64 (lim y.1 0), .int .u64 (lim y.1 1), .int .u64 (lim y.1 2), .int .u64 (lim y.1 3), .int .u64 (lim y.2 0), .int .u64 (lim y.2 1), .int .u64 (lim y.2 2), .int .u64 (lim y.2 3)] 63)) = .ok v6 W6 := hr0
      have R6 := hid hrw
      have Q6 := hid (Q5.out.trans hbw)
      clear hr0 hrw hbw
      go_wp2_with (at_builtin; first | (refine wpList_append_run rfl (.tmp 38) (.tmp 42) 29 rfl _ _ _ rfl rfl hr ?_) | (refine wpList_append_run rfl (.tmp 44) (.tmp 49) 29 rfl _ _ _ rfl rfl hr2 ?_))
      clear hc hr hr2 p0 r0 p1 r1 p2 r2 p3 r3 p4 r4 p5 r5 p6 r6 p7 r7
      go_roundw
      case rel => exact ⟨m + 1, now ++ [(k, v)] ++ [y], true, by have := HM.out; omega, rfl, by simp, (HINS.out.put HL.out.1.1 (beyond HL.out.1.1 HY.out.1 HLT.out)).stay HL.out.1.1 HY.out.1 HYK.out (fun h => by cases h), R6.out, Q6.out⟩
      case measure => have := HM.out; simp [intOf]; omega
     ·have hc : ¬ 0 < cm := fun h => absurd (HGT.out.1 h) (by omega)
      have HGE := hid (show y.1 < k by omega)
      clear hge
      replace HEQ := hid (HEQ.out.trans (decide_eq_false hyk))
      have HYK := hid hyk
      clear hyk
      have hEQ := HEQ.out
      have ky0 := fun z : Ext wr => (HCY.out z.w (HQ.out.trans (z.below.mono HQ.out.size))).1
      have kx0 := fun z : Ext wr => (HCK.out z.w (HQ.out.trans (z.below.mono HQ.out.size))).cell 0 _ rfl
      have ky1 := fun z : Ext wr => (HCY.out z.w (HQ.out.trans (z.below.mono HQ.out.size))).2.1
      have kx1 := fun z : Ext wr => (HCK.out z.w (HQ.out.trans (z.below.mono HQ.out.size))).cell 1 _ rfl
      have ky2 := fun z : Ext wr => (HCY.out z.w (HQ.out.trans (z.below.mono HQ.out.size))).2.2.1
      have kx2 := fun z : Ext wr => (HCK.out z.w (HQ.out.trans (z.below.mono HQ.out.size))).cell 2 _ rfl
      have ky3 := fun z : Ext wr => (HCY.out z.w (HQ.out.trans (z.below.mono HQ.out.size))).2.2.2.1
      have kx3 := fun z : Ext wr => (HCK.out z.w (HQ.out.trans (z.below.mono HQ.out.size))).cell 3 _ rfl
      go_wp2_with fail
      refine wp_region_quietL (C := Grows wr) hmx (by kernel_rfl) (grows_refl wr) ?_
      repeat (go_big_quiet_step (fail))
      refine wpQuiet_nil ?_
      rintro _ ⟨z1, rfl⟩
      have Q3 := hid (HQ.out.trans (z1.below.mono HQ.out.size))
      have R3 := hid (HR.out.later z1.below)
      try clear ky0 kx0 ky1 kx1 ky2 kx2 ky3 kx3
      have ky0 := fun z : Ext z1.w => (HCY.out z.w (Q3.out.trans (z.below.mono Q3.out.size))).1
      have kx0 := fun z : Ext z1.w => (HCK.out z.w (Q3.out.trans (z.below.mono Q3.out.size))).cell 0 _ rfl
      have ky1 := fun z : Ext z1.w => (HCY.out z.w (Q3.out.trans (z.below.mono Q3.out.size))).2.1
      have kx1 := fun z : Ext z1.w => (HCK.out z.w (Q3.out.trans (z.below.mono Q3.out.size))).cell 1 _ rfl
      have ky2 := fun z : Ext z1.w => (HCY.out z.w (Q3.out.trans (z.below.mono Q3.out.size))).2.2.1
      have kx2 := fun z : Ext z1.w => (HCK.out z.w (Q3.out.trans (z.below.mono Q3.out.size))).cell 2 _ rfl
      have ky3 := fun z : Ext z1.w => (HCY.out z.w (Q3.out.trans (z.below.mono Q3.out.size))).2.2.2.1
      have kx3 := fun z : Ext z1.w => (HCK.out z.w (Q3.out.trans (z.below.mono Q3.out.size))).cell 3 _ rfl
      go_wp2_with fail
      clear hEQ
      refine wp_region_quietL (C := Grows z1.w) hmx (by kernel_rfl) (grows_refl z1.w) ?_
      repeat (go_big_quiet_step (first | (with_reducible exact Ret.at CR.out _)))
      refine wpQuiet_nil ?_
      rintro _ ⟨z2, rfl⟩
      have Q4 := hid (Q3.out.trans (z2.below.mono Q3.out.size))
      have R4 := hid (R3.out.later z2.below)
      try clear ky0 kx0 ky1 kx1 ky2 kx2 ky3 kx3
      have p0 := (HCY.out z2.w Q4.out).1
      have p1 := (HCY.out z2.w Q4.out).2.1
      have p2 := (HCY.out z2.w Q4.out).2.2.1
      have p3 := (HCY.out z2.w Q4.out).2.2.2.1
      have p4 := (HCY.out z2.w Q4.out).2.2.2.2.1
      have p5 := (HCY.out z2.w Q4.out).2.2.2.2.2.1
      have p6 := (HCY.out z2.w Q4.out).2.2.2.2.2.2.1
      have p7 := (HCY.out z2.w Q4.out).2.2.2.2.2.2.2
      obtain ⟨v5, W5, hr0, hrw, hbw⟩ := push_slot z2.w V.heap.size (u7) now R4.out Q4.out.size (by have := hnl.out; (try simp only [List.length_append, List.length_cons, List.length_nil]); omega) y
      have hr : (Builtin.append_ #[29, 29] 29 #[u7, .slice (some ⟨z2.w.heap.size, 0, none⟩) 1 1]).run Tryz.prog (z2.w.alloc (.cells #[.int .u64 (lim y.1 0), .int .u64 (lim y.1 1), .int .u64 (lim y.1 2), .int .u64 (lim y.1 3), .int .u64 (lim y.2 0), .int .u64 (lim y.2 1), .int .u64 (lim y.2 2), .int .u64 (lim y.2 3)] 63)) = .ok v5 W5 := hr0
      have R5 := hid hrw
      have Q5 := hid (Q4.out.trans hbw)
      clear hr0 hrw hbw
      go_wp2_with (at_builtin; refine wpList_append_run rfl (.tmp 44) (.tmp 49) 29 rfl _ _ _ rfl rfl hr ?_)
      clear hr p0 p1 p2 p3 p4 p5 p6 p7
      go_roundw
      case rel => exact ⟨m + 1, now ++ [y], false, by have := HM.out; omega, rfl, by simp, HINS.out.stay HL.out.1.1 HY.out.1 HYK.out (fun _ => HGE.out), R5.out, Q5.out⟩
      case measure => have := HM.out; simp [intOf]; omega
    ·replace HEQ := hid (HEQ.out.trans (decide_eq_false hyk))
     have HYK := hid hyk
     clear hyk
     have hEQ := HEQ.out
     have ky0 := fun z : Ext wr => (HCY.out z.w (HQ.out.trans (z.below.mono HQ.out.size))).1
     have kx0 := fun z : Ext wr => (HCK.out z.w (HQ.out.trans (z.below.mono HQ.out.size))).cell 0 _ rfl
     have ky1 := fun z : Ext wr => (HCY.out z.w (HQ.out.trans (z.below.mono HQ.out.size))).2.1
     have kx1 := fun z : Ext wr => (HCK.out z.w (HQ.out.trans (z.below.mono HQ.out.size))).cell 1 _ rfl
     have ky2 := fun z : Ext wr => (HCY.out z.w (HQ.out.trans (z.below.mono HQ.out.size))).2.2.1
     have kx2 := fun z : Ext wr => (HCK.out z.w (HQ.out.trans (z.below.mono HQ.out.size))).cell 2 _ rfl
     have ky3 := fun z : Ext wr => (HCY.out z.w (HQ.out.trans (z.below.mono HQ.out.size))).2.2.2.1
     have kx3 := fun z : Ext wr => (HCK.out z.w (HQ.out.trans (z.below.mono HQ.out.size))).cell 3 _ rfl
     go_wp2_with fail
     refine wp_region_quietL (C := Grows wr) hmx (by kernel_rfl) (grows_refl wr) ?_
     repeat (go_big_quiet_step (fail))
     refine wpQuiet_nil ?_
     rintro _ ⟨z1, rfl⟩
     have Q3 := hid (HQ.out.trans (z1.below.mono HQ.out.size))
     have R3 := hid (HR.out.later z1.below)
     try clear ky0 kx0 ky1 kx1 ky2 kx2 ky3 kx3
     go_wp2_with fail
     clear hEQ
     refine wp_region_quietL (C := Grows z1.w) hmx (by kernel_rfl) (grows_refl z1.w) ?_
     repeat (go_big_quiet_step (fail))
     refine wpQuiet_nil ?_
     rintro _ ⟨z2, rfl⟩
     have Q4 := hid (Q3.out.trans (z2.below.mono Q3.out.size))
     have R4 := hid (R3.out.later z2.below)
     try clear ky0 kx0 ky1 kx1 ky2 kx2 ky3 kx3
     have p0 := (HCY.out z2.w Q4.out).1
     have p1 := (HCY.out z2.w Q4.out).2.1
     have p2 := (HCY.out z2.w Q4.out).2.2.1
     have p3 := (HCY.out z2.w Q4.out).2.2.2.1
     have p4 := (HCY.out z2.w Q4.out).2.2.2.2.1
     have p5 := (HCY.out z2.w Q4.out).2.2.2.2.2.1
     have p6 := (HCY.out z2.w Q4.out).2.2.2.2.2.2.1
     have p7 := (HCY.out z2.w Q4.out).2.2.2.2.2.2.2
     obtain ⟨v5, W5, hr0, hrw, hbw⟩ := push_slot z2.w V.heap.size (u7) now R4.out Q4.out.size (by have := hnl.out; (try simp only [List.length_append, List.length_cons, List.length_nil]); omega) y
     have hr : (Builtin.append_ #[29, 29] 29 #[u7, .slice (some ⟨z2.w.heap.size, 0, none⟩) 1 1]).run Tryz.prog (z2.w.alloc (.cells #[.int .u64 (lim y.1 0), .int .u64 (lim y.1 1), .int .u64 (lim y.1 2), .int .u64 (lim y.1 3), .int .u64 (lim y.2 0), .int .u64 (lim y.2 1), .int .u64 (lim y.2 2), .int .u64 (lim y.2 3)] 63)) = .ok v5 W5 := hr0
     have R5 := hid hrw
     have Q5 := hid (Q4.out.trans hbw)
     clear hr0 hrw hbw
     go_wp2_with (at_builtin; refine wpList_append_run rfl (.tmp 44) (.tmp 49) 29 rfl _ _ _ rfl rfl hr ?_)
     clear hr p0 p1 p2 p3 p4 p5 p6 p7
     go_roundw
     case rel => exact ⟨m + 1, now ++ [y], true, by have := HM.out; omega, rfl, by simp, HINS.out.stay HL.out.1.1 HY.out.1 HYK.out (fun h => by cases h), R5.out, Q5.out⟩
     case measure => have := HM.out; simp [intOf]; omega
  ·have hmI : ¬ (m : Int) < (n : Int) := by omega
   obtain rfl : m = n := by omega
   rcases dn with _ | _
   ·have hnl := hid (show now.length ≤ 2001 from by have h := HINS.out.len; have := HL.out.2; omega)
    have p0 := (HCK.out wr HQ.out).cell 0 _ rfl
    have p1 := (HCK.out wr HQ.out).cell 1 _ rfl
    have p2 := (HCK.out wr HQ.out).cell 2 _ rfl
    have p3 := (HCK.out wr HQ.out).cell 3 _ rfl
    have p4 := (HCV.out wr HQ.out).cell 0 _ rfl
    have p5 := (HCV.out wr HQ.out).cell 1 _ rfl
    have p6 := (HCV.out wr HQ.out).cell 2 _ rfl
    have p7 := (HCV.out wr HQ.out).cell 3 _ rfl
    obtain ⟨v4, W4, hr0, hrw, hbw⟩ := push_slot wr V.heap.size (u7) now HR.out HQ.out.size (by have := hnl.out; (try simp only [List.length_append, List.length_cons, List.length_nil]); omega) (k, v)
    have hr : (Builtin.append_ #[29, 29] 29 #[u7, .slice (some ⟨wr.heap.size, 0, none⟩) 1 1]).run Tryz.prog (wr.alloc (.cells #[.int .u64 (lim k 0), .int .u64 (lim k 1), .int .u64 (lim k 2), .int .u64 (lim k 3), .int .u64 (lim v 0), .int .u64 (lim v 1), .int .u64 (lim v 2), .int .u64 (lim v 3)] 63)) = .ok v4 W4 := hr0
    have R4 := hid hrw
    have Q4 := hid (HQ.out.trans hbw)
    clear hr0 hrw hbw
    have FIN := hid (show RowT W4 W.heap.size v4 (mergeL l [(k, v)]) ∧ Below W.heap.size W W4 from by
     have e : now ++ [(k, v)] = mergeL l [(k, v)] := by
      have h := HINS.out.put HL.out.1.1 (fun j z hj hz => absurd (List.getElem?_eq_some_iff.1 hz).1 (by have := HN.out; omega))
      rw [← HN.out] at h
      exact h.done HL.out.1
     rw [← e]
     exact ⟨R4.out.lower Q.out.size, Q.out.trans (Q4.out.mono Q.out.size)⟩)
    go_wp2_with (at_builtin; refine wpList_append_run rfl (.tmp 53) (.tmp 57) 29 rfl _ _ _ rfl rfl hr ?_)
    go_ret
    exact ⟨_, rfl, FIN.out⟩
   ·have FIN := hid (show RowT wr W.heap.size u7 (mergeL l [(k, v)]) ∧ Below W.heap.size W wr from by
     have e : now = mergeL l [(k, v)] := by
      have h := HINS.out
      rw [← HN.out] at h
      exact h.done HL.out.1
     rw [← e]
     exact ⟨HR.out.lower Q.out.size, Q.out.trans (HQ.out.mono Q.out.size)⟩)
    go_wp2_with fail
    go_ret
    exact ⟨_, rfl, FIN.out⟩
end
section
open Go Go.RowKit
attribute [local go_sem] Oper.semAt_some Grows wide_fn eq4
theorem slC_one (x : Sl) : ∀ u ∈ slC x, u.oneCell' = true := by simp [slC, Value.oneCell']
theorem putsL_wide' {a l : List Sl} (ha : ∀ x ∈ a, W256 x.1 ∧ W256 x.2) (hl : ∀ x ∈ l, W256 x.1 ∧ W256 x.2) : ∀ x ∈ putsL a l, W256 x.1 ∧ W256 x.2 := by
 induction l generalizing a with
 | nil => exact ha
 | cons y r ih => exact ih (putL_wide ha (hl y (List.mem_cons_self ..))) (fun x hx => hl x (List.mem_cons_of_mem _ hx))
theorem copy_slots (A : World) (sv : Value) (l : List Sl) (h : SlotsAt A sv l) (hl : l.length ≤ 100000) :
  ∃ v' w', (Builtin.append_ #[29, 29] 29 #[.slice none 0 0, sv]).run Tryz.prog A = .ok v' w' ∧ RowT w' A.heap.size v' l ∧ Below A.heap.size A w' := by
 obtain ⟨a, cap, rfl, h2, h3, h4, h5⟩ := h
 obtain ⟨i, hi, hz, hsize, hby⟩ := infoS_of
 cases l with
 | nil =>
  refine ⟨_, _, run_append_nothing (P := Tryz.prog) A 29 29 29 63 i Tryz.underlying29 hi none 0 0 (Nat.le_refl _) (.slice a 0 cap) ?_, ⟨rfl, .inl ⟨rfl, rfl⟩⟩, Below.refl _ _⟩
  cases a with
  | none => exact Src.ofNil _ Tryz.underlying29 cap
  | some b => exact Src.ofSlice _ Tryz.underlying29 b 0 cap [] (by simp) (fun j u hj => by simp at hj) (fun u hu => by cases hu)
 | cons x r =>
  obtain ⟨b, rfl, _⟩ := h5 0 x rfl
  obtain ⟨v', w', hr, hown, hgr, hnb⟩ := run_append_src (P := Tryz.prog) A A.heap.size 29 29 29 63 i _ 8 64 Tryz.underlying29 hi hz hsize hby rfl (by decide) (.slice none 0 0) 0 [] (World.ownsRow_nil _ _ _ _) (.slice (some b) (x :: r).length cap) (x :: r).length (by simp) (flat8 (x :: r)) (by
   rw [hsize]
   refine Src.ofSlice _ Tryz.underlying29 b _ cap _ (flat8_length _) (fun j u hj => ?_) (fun u hu => ?_)
   ·have hj8 : j < (x :: r).length * 8 := by
     have := (List.getElem?_eq_some_iff.1 hj).1
     rwa [flat8_length] at this
    obtain ⟨y, hy⟩ : ∃ y, (x :: r)[j / 8]? = some y := ⟨_, List.getElem?_eq_getElem (by omega)⟩
    obtain ⟨b', hb', hc⟩ := h5 (j / 8) y hy
    injection hb' with hb'
    subst hb'
    have h8 := hc (j % 8) (by omega)
    have hf := flat8_at (x :: r) (j / 8) y (j % 8) hy (by omega)
    rw [Addr.add_add, show j / 8 * 8 + j % 8 = j by omega] at h8
    rw [show j / 8 * 8 + j % 8 = j by omega, hj] at hf
    injection hf with hf
    rw [hf]
    exact h8
   ·obtain ⟨y, _, hy⟩ := List.mem_flatMap.1 hu
    exact slC_one y u hy) (by omega) (by unfold maxLen; omega) (Nat.le_refl _)
  refine ⟨v', w', hr, ?_, ?_⟩
  ·unfold RowT
   rw [Nat.zero_add, List.nil_append] at hown
   exact hown
  ·exact ⟨hgr.os, hgr.tape, hgr.output, hgr.size, fun k hk => hgr.block k hk (fun e => by cases e)⟩
theorem refMerge_any (W : World) (sa sb : Value) (la lb : List Sl) (ha : SlotsAt W sa la) (hb : SlotsAt W sb lb) :
  Calls Tryz.prog 63 #[sa, sb] W (DoneP W (rightB' la && patchB lb) (mergeL la lb)) := by
 have hmx : Tryz.prog.follows .mixedOrders = true := by kernel_rfl
 have HA := hid ha
 have HB := hid hb
 have H1 := hid (refRight_any W sa la ha)
 have HRA := hid (fun (h : rightB' la = true) => (rightB_iff' la).1 h)
 have HRB := hid (fun (h : patchB lb = true) => (patchB_iff lb).1 h)
 clear ha hb
 generalize hra : rightB' la = ra at *
 generalize hrb : patchB lb = rb at *
 have HEB := hid hrb
 clear hra hrb
 go_enter Tryz.func63, Tryz.ntmps63
 go_wp2_with fail
 refine H1.out.mono ?_
 rintro _ W1 ⟨rfl, q1⟩
 have Q1 := hid q1
 clear q1 H1
 cases ra
 ·clear HRA HRB
  go_wp2_with fail
  go_ret2
  exact ⟨.inr (.inr ⟨by simp, rfl⟩), Q1.out⟩
 ·go_wp2_with fail
  refine (refPatch_any W1 sb lb (HB.out.later Q1.out)).mono ?_
  rintro _ W2 ⟨rfl, q2⟩
  rw [HEB.out]
  have Q2 := hid (Q1.out.trans (q2.mono Q1.out.size))
  clear q2 Q1 HEB
  cases rb
  ·clear HRA HRB
   go_wp2_with fail
   go_ret2
   exact ⟨.inr (.inr ⟨by simp, rfl⟩), Q2.out⟩
  ·have KA := hid (HRA.out trivial)
   have KB := hid (HRB.out rfl)
   have WA := hid HA.out.wideAll
   have WB := hid HB.out.wideAll
   clear HRA HRB
   obtain ⟨v0, w0, hr, hrow, hbw⟩ := copy_slots W2 sa la (HA.out.later Q2.out) (by have := KA.out.1; omega)
   have HR0 := hid hrow
   have HQ0 := hid hbw
   clear hrow hbw
   obtain ⟨ab, cb, rfl, hnc, hcm⟩ := HB.out.shape
   have HBV := hid ((HB.out.later Q2.out).later HQ0.out)
   obtain ⟨n, hn⟩ : ∃ n, lb.length = n := ⟨_, rfl⟩
   rw [hn] at HB HBV
   rw [hn]
   have HN := hid hn
   clear hn hnc hcm HA
   go_wp2_with (at_builtin; refine wpList_append_run rfl (.const (.slice none 0 0)) (.tmp 16) 29 rfl _ _ _ rfl rfl hr ?_)
   clear hr
   go_loopw [6, 7] (fun u i wr => ∃ k : Nat, k ≤ n ∧ i = .int .i64 (k : Int) ∧ RowT wr W2.heap.size u (putsL la (lb.take k)) ∧ Below w0.heap.size w0 wr) (fun _ i _ => n - (intOf i).toNat)
   case atStart => exact ⟨0, by omega, rfl, by rw [List.take_zero]; exact HR0.out, Below.refl _ _⟩
   case round =>
    obtain ⟨k, hk, rfl, hrow, hq⟩ := hrel
    have HR := hid hrow
    have HQ := hid hq
    clear hrow hq
    by_cases hkn : k < n
    ·have hknI : (k : Int) < (n : Int) := by omega
     have hk0 : (0 : Int) ≤ (k : Int) := by omega
     have hkb : (k : Int) ≤ 1000 := by have := KB.out.1; have := HN.out; omega
     obtain ⟨x, hx⟩ : ∃ x, lb[k]? = some x := ⟨_, List.getElem?_eq_getElem (by have := HN.out; omega)⟩
     obtain ⟨b, rfl, _⟩ := (HBV.out.later HQ.out).at hx
     have hC := fun z : Ext wr => (HBV.out.later (HQ.out.trans (z.below.mono HQ.out.size))).at' hx
     have c0 := fun z : Ext wr => (hC z).1
     have c1 := fun z : Ext wr => (hC z).2.1
     have c2 := fun z : Ext wr => (hC z).2.2.1
     have c3 := fun z : Ext wr => (hC z).2.2.2.1
     have c4 := fun z : Ext wr => (hC z).2.2.2.2.1
     have c5 := fun z : Ext wr => (hC z).2.2.2.2.2.1
     have c6 := fun z : Ext wr => (hC z).2.2.2.2.2.2.1
     have c7 := fun z : Ext wr => (hC z).2.2.2.2.2.2.2
     have HS := hid (HR.out.slots (putsL_wide' WA.out (fun y hy => WB.out y (List.mem_of_mem_take hy))))
     have HK := hid hkn
     have P1 := hid (fun (z : Ext wr) => (show Calls Tryz.prog 93 #[u6, .agg #[.int .u64 (lim x.1 0), .int .u64 (lim x.1 1), .int .u64 (lim x.1 2), .int .u64 (lim x.1 3)], .agg #[.int .u64 (lim x.2 0), .int .u64 (lim x.2 1), .int .u64 (lim x.2 2), .int .u64 (lim x.2 3)]] z.w fun e w' => ∃ rv, e = .returned rv ∧ RowT w' z.w.heap.size rv (putsL la (lb.take (k + 1))) ∧ Below z.w.heap.size z.w w' from by
      have h := refPutOne_any z.w u6 _ (HS.out.later z.below) (putsL_kept KA.out.2 (lb.take k)) (by have := putsL_short la lb k; have := KA.out.1; have := KB.out.1; have := putsL_len la (lb.take k); have : (lb.take k).length ≤ lb.length := (by rw [List.length_take]; omega); omega) x.1 x.2 (WB.out x (List.mem_of_getElem? hx)).1 (WB.out x (List.mem_of_getElem? hx)).2
      rw [show mergeL (putsL la (lb.take k)) [(x.1, x.2)] = putsL la (lb.take (k + 1)) from putsL_take hx] at h
      exact h))
     clear hk hkn hx hC HS
     go_wp2_with fail
     refine wp_region_mix (C := Grows wr) [some true, some true, some true, some true, some true, some true, some true, some true, some true, some true, some true, none, none] hmx (by kernel_rfl) (by kernel_rfl) (grows_refl wr) ?_
     simp only [headOf, tailOf]
     repeat (go_big_quiet_step (fail))
     refine wpQuiet_nil ?_
     rintro _ ⟨z, rfl⟩
     clear c0 c1 c2 c3 c4 c5 c6 c7
     go_wp2_with fail
     refine (P1.out z).mono ?_
     rintro _ y ⟨rv, rfl, hrow, hq⟩
     have HQ2 := hid (HQ.out.trans ((z.below.trans (hq.mono z.below.size)).mono HQ.out.size))
     have HR2 := hid (hrow.lower (show W2.heap.size ≤ z.w.heap.size from Nat.le_trans HQ0.out.size (Nat.le_trans HQ.out.size z.below.size)))
     clear hrow hq P1 HR
     go_wp2
     rw [calmPost_normal]
     go_wp2_with fail
     go_roundw
     case rel => exact ⟨k + 1, by have := HK.out; omega, by simp, HR2.out, HQ2.out⟩
     case measure => have := HK.out; simp [intOf]; omega
    ·have hknI : ¬ (k : Int) < (n : Int) := by omega
     obtain rfl : k = n := by omega
     have he : putsL la (lb.take k) = mergeL la lb := by
      rw [List.take_of_length_le (by have := HN.out; omega)]
      exact putsL_merge KA.out.2 KB.out.2
     rw [he] at HR
     have hq := Q2.out.trans ((HQ0.out.trans (HQ.out.mono HQ0.out.size)).mono Q2.out.size)
     have QE := hid hq
     have HRE := hid (HR.out.lower Q2.out.size)
     obtain ⟨ao, co, rfl⟩ := HR.out.shape
     obtain ⟨nm, hnm⟩ : ∃ nm, (mergeL la lb).length = nm := ⟨_, rfl⟩
     have HNM := hid hnm
     rw [hnm] at HRE ⊢
     have hnb : (nm : Int) ≤ 9223372036854775806 := by
      have h1 := putsL_len la lb
      rw [putsL_merge KA.out.2 KB.out.2, hnm] at h1
      have := KA.out.1
      have := KB.out.1
      omega
     clear hk hkn he hq hnm HR HQ HQ0 Q2 HB HBV HR0
     by_cases hle : nm ≤ 1000
     ·have hleI : ¬ 1000 < (nm : Int) := by omega
      have HLE := hid hle
      clear hle
      go_wp2_with fail
      go_ret2
      exact ⟨.inl ⟨rfl, by rw [HNM.out]; exact HLE.out, _, rfl, HRE.out⟩, QE.out⟩
     ·have hleI : 1000 < (nm : Int) := by omega
      have HLE := hid hle
      clear hle
      go_wp2_with fail
      go_ret2
      exact ⟨.inr (.inl ⟨rfl, by rw [HNM.out]; exact HLE.out, rfl⟩), QE.out⟩
theorem refPut_any (W : World) (sv : Value) (l : List Sl) (hs : SlotsAt W sv l) (k v : Nat) (hk : W256 k) (hv : W256 v) :
  Calls Tryz.prog 44 #[sv, wv k, wv v] W (DoneP W (rightB' l) (mergeL l [(k, v)])) := by
 have K1 := (Has.new W 28 #[.int .u64 (lim k 0), .int .u64 (lim k 1), .int .u64 (lim k 2), .int .u64 (lim k 3)]).alloc (.cells #[.int .u64 (lim v 0), .int .u64 (lim v 1), .int .u64 (lim v 2), .int .u64 (lim v 3)] 28)
 have K2 := Has.new (W.alloc (.cells #[.int .u64 (lim k 0), .int .u64 (lim k 1), .int .u64 (lim k 2), .int .u64 (lim k 3)] 28)) 28 #[.int .u64 (lim v 0), .int .u64 (lim v 1), .int .u64 (lim v 2), .int .u64 (lim v 3)]
 have K3 := Has.new ((W.alloc (.cells #[.int .u64 (lim k 0), .int .u64 (lim k 1), .int .u64 (lim k 2), .int .u64 (lim k 3)] 28)).alloc (.cells #[.int .u64 (lim v 0), .int .u64 (lim v 1), .int .u64 (lim v 2), .int .u64 (lim v 3)] 28)) 63 #[.int .u64 (lim k 0), .int .u64 (lim k 1), .int .u64 (lim k 2), .int .u64 (lim k 3), .int .u64 (lim v 0), .int .u64 (lim v 1), .int .u64 (lim v 2), .int .u64 (lim v 3)]
 simp only [World.size_alloc] at K2 K3
 have Q := hid (((newA W (.cells #[.int .u64 (lim k 0), .int .u64 (lim k 1), .int .u64 (lim k 2), .int .u64 (lim k 3)] 28)).alloc (by simp) (.cells #[.int .u64 (lim v 0), .int .u64 (lim v 1), .int .u64 (lim v 2), .int .u64 (lim v 3)] 28)).alloc (by simp; omega) (.cells #[.int .u64 (lim k 0), .int .u64 (lim k 1), .int .u64 (lim k 2), .int .u64 (lim k 3), .int .u64 (lim v 0), .int .u64 (lim v 1), .int .u64 (lim v 2), .int .u64 (lim v 3)] 63))
 have a0 := K1.cell 0 _ rfl
 have b0 := K2.cell 0 _ rfl
 have a1 := K1.cell 1 _ rfl
 have b1 := K2.cell 1 _ rfl
 have a2 := K1.cell 2 _ rfl
 have b2 := K2.cell 2 _ rfl
 have a3 := K1.cell 3 _ rfl
 have b3 := K2.cell 3 _ rfl
 have HM := hid (refMerge_any (((W.alloc (.cells #[.int .u64 (lim k 0), .int .u64 (lim k 1), .int .u64 (lim k 2), .int .u64 (lim k 3)] 28)).alloc (.cells #[.int .u64 (lim v 0), .int .u64 (lim v 1), .int .u64 (lim v 2), .int .u64 (lim v 3)] 28)).alloc (.cells #[.int .u64 (lim k 0), .int .u64 (lim k 1), .int .u64 (lim k 2), .int .u64 (lim k 3), .int .u64 (lim v 0), .int .u64 (lim v 1), .int .u64 (lim v 2), .int .u64 (lim v 3)] 63)) sv (.slice (some ⟨W.heap.size + 1 + 1, 0, none⟩) 1 1) l [(k, v)] (hs.later Q.out) (slots_one K3 hk hv))
 rw [patchB_one, Bool.and_true] at HM
 unfold wv
 generalize rightB' l = ok at *
 generalize mergeL l [(k, v)] = out at *
 clear hs hk hv
 generalize lim k 0 = k0 at *
 generalize lim k 1 = k1 at *
 generalize lim k 2 = k2 at *
 generalize lim k 3 = k3 at *
 generalize lim v 0 = v0 at *
 generalize lim v 1 = v1 at *
 generalize lim v 2 = v2 at *
 generalize lim v 3 = v3 at *
 replace K1 := hid K1
 replace K2 := hid K2
 replace K3 := hid K3
 go_enter Tryz.func44, Tryz.ntmps44
 go_wp2_with fail
 refine HM.out.mono ?_
 intro e W5 hd
 obtain ⟨x, y, rfl⟩ := hd.two
 have HD := hid (hd.lower Q.out)
 clear hd HM a0 a1 a2 a3 b0 b1 b2 b3
 go_wp2_with fail
 go_ret2
 exact HD.out
end
end Go.Proofs.YtkicmbdjihjgfaaGreatDoor
