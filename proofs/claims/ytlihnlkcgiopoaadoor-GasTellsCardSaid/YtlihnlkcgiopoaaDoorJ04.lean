/- Part. -/
import Derived.Test.YtlihnlkcgiopoaaDoorJ03
import Derived.Laws.StructEq
import Derived.Laws.Cover2
import Derived.Lib.Hide
import Derived.Test.YtlihnlkcgiopoaaDoorJ02
set_option maxRecDepth 100000
set_option maxHeartbeats 16000000
namespace Go.Proofs.YtlihnlkcgiopoaaDoor
section
open Go Go.RowKit
section
variable {P : Program} {md : Region.Mode}
inductive Anc (md : Region.Mode) (ops : Array Oper) : Nat → Nat → Prop
 | one {i j : Nat} (h : Region.waitsFor md ops i j = true) : Anc md ops i j
 | step {i k j : Nat} (h : Region.waitsFor md ops i k = true) (t : Anc md ops k j) : Anc md ops i j
theorem anc_listed {ops : Array Oper} {listed : Array Bool} (hc : Closed md ops listed) {i j : Nat} (h : Anc md ops i j) : listed.getD i false = true → listed.getD j false = true := by
 induction h with
 | one h => exact fun hl => closed_waits hc hl h
 | step h _ ih => exact fun hl => ih (closed_waits hc hl h)
theorem anc_ready {ops : Array Oper} {listed : Array Bool} (hc : Closed md ops listed) {i j : Nat} (h : Anc md ops i j) (hr : i ∈ Region.ready md ops listed) : listed.getD j false = true := by
 cases h with
 | one h => exact ready_waits hr h
 | step h t => exact anc_listed hc t (ready_waits hr h)
structure QuickOk (md : Region.Mode) (l : List Oper) : Prop where
 sel : ∀ (j : Nat) (o : Oper) cs b, l[j]? = some o → o.op ≠ .select cs b
 edges : ∀ (j : Nat) (oj : Oper), l[j]? = some oj → ∀ e ∈ oj.after, Region.binds md e = true → e.on < j
 looks : ∀ (i j : Nat) (oi oj : Oper), l[i]? = some oi → l[j]? = some oj → ∀ d, oj.dst = some d → d ∈ oi.looksAt l.toArray → j < i ∧ Anc md l.toArray i j
 dsts : ∀ (i j : Nat) (oi oj : Oper), l[i]? = some oi → l[j]? = some oj → j ≠ i → ∀ d, oi.dst = some d → oj.dst ≠ some d
def dstBit (o : Oper) : Nat := match o.dst with | some d => 2 ^ d | none => 0
def allBits : List Oper → Nat
 | [] => 0
 | o :: l => dstBit o ||| allBits l
def upBits (md : Region.Mode) (i : Nat) (ms : List Nat) : List Edge → Nat
 | [] => 0
 | e :: r => (if Region.binds md e then ms.getD (i - 1 - e.on) 0 else 0) ||| upBits md i ms r
def looksOp (ops : Array Oper) (o : Oper) (W m : Nat) : Bool := (o.looksAt ops).all fun t => !W.testBit t || m.testBit t
def quickGo (md : Region.Mode) (ops : Array Oper) (W : Nat) : Nat → List Oper → List Nat → Nat → Bool
 | _, [], _, _ => true
 | i, o :: l, ms, seen =>
  (match o.op with | .select .. => false | _ => true) &&
  (o.after.toList.all fun e => !Region.binds md e || decide (e.on < i)) &&
  (match o.dst with | some d => !seen.testBit d | none => true) &&
  (let m := upBits md i ms o.after.toList
   looksOp ops o W m && quickGo md ops W (i + 1) l ((m ||| dstBit o) :: ms) (seen ||| dstBit o))
def quickB (md : Region.Mode) (l : List Oper) : Bool := quickGo md l.toArray (allBits l) 0 l [] 0
theorem dstBit_spec {o : Oper} {t : Nat} : (dstBit o).testBit t = true ↔ o.dst = some t := by
 unfold dstBit
 cases o.dst with
 | none => simp
 | some d => rw [Nat.testBit_two_pow]; simp
theorem allBits_spec : ∀ (l : List Oper) (t : Nat), (allBits l).testBit t = true ↔ ∃ (j : Nat) (o : Oper), l[j]? = some o ∧ o.dst = some t
 | [], t => by simp [allBits]
 | o :: l, t => by
  rw [allBits, Nat.testBit_or, Bool.or_eq_true, dstBit_spec, allBits_spec l t]
  constructor
  ·rintro (h | ⟨j, p, hj, hp⟩)
   ·exact ⟨0, o, rfl, h⟩
   ·exact ⟨j + 1, p, by simpa using hj, hp⟩
  ·rintro ⟨j, p, hj, hp⟩
   cases j with
   | zero =>
    left
    have : o = p := by simpa using hj
    rw [this]
    exact hp
   | succ j => exact .inr ⟨j, p, by simpa using hj, hp⟩
def MaskOk (md : Region.Mode) (l : List Oper) (k m : Nat) : Prop := ∀ t, m.testBit t = true → ∃ (j : Nat) (oj : Oper), l[j]? = some oj ∧ oj.dst = some t ∧ j ≤ k ∧ (j = k ∨ Anc md l.toArray k j)
theorem upBits_spec {l : List Oper} {i : Nat} {ms : List Nat} (hms : ∀ k, k < i → MaskOk md l k (ms.getD (i - 1 - k) 0)) : ∀ (es : List Edge), (∀ e ∈ es, Region.binds md e = true → e.on < i) → ∀ t, (upBits md i ms es).testBit t = true →
  ∃ e ∈ es, Region.binds md e = true ∧ ∃ (j : Nat) (oj : Oper), l[j]? = some oj ∧ oj.dst = some t ∧ j ≤ e.on ∧ (j = e.on ∨ Anc md l.toArray e.on j)
 | [], _, t, h => by simp [upBits] at h
 | e :: r, he, t, h => by
  rw [upBits, Nat.testBit_or, Bool.or_eq_true] at h
  rcases h with h | h
  ·by_cases hb : Region.binds md e = true
   ·rw [if_pos hb] at h
    exact ⟨e, by simp, hb, hms e.on (he e (by simp) hb) t h⟩
   ·rw [if_neg hb] at h; simp at h
  ·obtain ⟨e', he', rest⟩ := upBits_spec hms r (fun x hx => he x (by simp [hx])) t h
   exact ⟨e', by simp [he'], rest⟩
theorem quickGo_spec {l : List Oper} : ∀ (r : List Oper) (i : Nat) (ms : List Nat) (seen : Nat), (∀ j, r[j]? = l[i + j]?) → (∀ k, k < i → MaskOk md l k (ms.getD (i - 1 - k) 0)) →
  (∀ (j : Nat) (oj : Oper), j < i → l[j]? = some oj → ∀ d, oj.dst = some d → seen.testBit d = true) → quickGo md l.toArray (allBits l) i r ms seen = true →
  ∀ (k : Nat) (o : Oper), i ≤ k → l[k]? = some o → (∀ cs b, o.op ≠ .select cs b) ∧ (∀ e ∈ o.after, Region.binds md e = true → e.on < k) ∧
   (∀ (j : Nat) (oj : Oper), l[j]? = some oj → ∀ d, oj.dst = some d → d ∈ o.looksAt l.toArray → ∃ (j' : Nat) (oj' : Oper), l[j']? = some oj' ∧ oj'.dst = some d ∧ j' < k ∧ Anc md l.toArray k j') ∧
   (∀ (j : Nat) (oj : Oper), j < k → l[j]? = some oj → ∀ d, o.dst = some d → oj.dst ≠ some d)
 | [], i, ms, seen, hr, _, _, _, k, o, hk, ho => by
  have := hr (k - i)
  rw [show i + (k - i) = k by omega, ho] at this
  simp at this
 | p :: r, i, ms, seen, hr, hms, hseen, h, k, o, hk, ho => by
  have h0 : l[i]? = some p := by simpa using (hr 0).symm
  rw [quickGo] at h
  simp only [Bool.and_eq_true] at h
  obtain ⟨⟨⟨h1, h2⟩, h3⟩, h4, h5⟩ := h
  have hes : ∀ e ∈ p.after.toList, Region.binds md e = true → e.on < i := fun e he hb => by
   have := List.all_eq_true.1 h2 e he
   rw [hb] at this
   simpa using this
  have hup := upBits_spec (md := md) (l := l) hms p.after.toList hes
  rcases Nat.eq_or_lt_of_le hk with rfl | hlt
  ·have : o = p := Option.some.inj (ho.symm.trans h0)
   subst this
   refine ⟨fun cs b e => ?_, fun e he => hes e (by simpa using he), fun j oj hj d hd hin => ?_, fun j oj hjk hj d hd hd' => ?_⟩
   ·rw [e] at h1
    cases h1
   ·have := List.all_eq_true.1 h4 d hin
    rw [(allBits_spec l d).2 ⟨j, oj, hj, hd⟩] at this
    obtain ⟨e, he, hb, j', oj', hj', hd', hle, hor⟩ := hup d (by simpa using this)
    have hlt := hes e he hb
    have hw : Region.waitsFor md l.toArray i e.on = true := by
     unfold Region.waitsFor
     simp only [List.getElem?_toArray, h0]
     exact Array.any_eq_true'.2 ⟨e, by simpa using he, by simp [hb]⟩
    refine ⟨j', oj', hj', hd', by omega, ?_⟩
    rcases hor with rfl | ha
    ·exact .one hw
    ·exact .step hw ha
   ·rw [hd] at h3
    simp only [] at h3
    rw [hseen j oj hjk hj d hd'] at h3
    cases h3
  ·refine quickGo_spec r (i + 1) _ _ (fun j => ?_) (fun k' hk' => ?_) (fun j oj hj hl d hd => ?_) h5 k o hlt ho
   ·have := hr (j + 1)
    rw [show i + (j + 1) = i + 1 + j by omega] at this
    simpa using this
   ·rcases Nat.lt_succ_iff_lt_or_eq.1 hk' with h' | rfl
    ·rw [show i + 1 - 1 - k' = (i - 1 - k') + 1 by omega, List.getD_cons_succ]
     exact hms k' h'
    ·rw [show k' + 1 - 1 - k' = 0 by omega, List.getD_cons_zero]
     intro t ht
     rw [Nat.testBit_or, Bool.or_eq_true] at ht
     rcases ht with ht | ht
     ·obtain ⟨e, he, hb, j', oj', hj', hd', hle, hor⟩ := hup t ht
      have hlt := hes e he hb
      have hw : Region.waitsFor md l.toArray k' e.on = true := by
       unfold Region.waitsFor
       simp only [List.getElem?_toArray, h0]
       exact Array.any_eq_true'.2 ⟨e, by simpa using he, by simp [hb]⟩
      refine ⟨j', oj', hj', hd', by omega, .inr ?_⟩
      rcases hor with rfl | ha
      ·exact .one hw
      ·exact .step hw ha
     ·exact ⟨k', p, h0, dstBit_spec.1 ht, Nat.le_refl _, .inl rfl⟩
   ·rw [Nat.testBit_or, Bool.or_eq_true]
    rcases Nat.lt_succ_iff_lt_or_eq.1 hj with h' | rfl
    ·exact .inl (hseen j oj h' hl d hd)
    ·have : oj = p := Option.some.inj (hl.symm.trans h0)
     subst this
     exact .inr (dstBit_spec.2 hd)
theorem quickOk {l : List Oper} (h : quickB md l = true) : QuickOk md l := by
 have S := quickGo_spec (md := md) (l := l) l 0 [] 0 (fun j => by simp) (fun k hk => by omega) (fun j _ hj => by omega) h
 have D : ∀ (i j : Nat) (oi oj : Oper), l[i]? = some oi → l[j]? = some oj → j ≠ i → ∀ d, oi.dst = some d → oj.dst ≠ some d := fun i j oi oj hi hj hne d hd hd' => by
  rcases Nat.lt_or_gt_of_ne hne with hlt | hlt
  ·exact (S i oi (Nat.zero_le _) hi).2.2.2 j oj hlt hj d hd hd'
  ·exact (S j oj (Nat.zero_le _) hj).2.2.2 i oi hlt hi d hd' hd
 refine ⟨fun j o cs b hj => (S j o (Nat.zero_le _) hj).1 cs b, fun j oj hj => (S j oj (Nat.zero_le _) hj).2.1, fun i j oi oj hi hj d hd hin => ?_, D⟩
 obtain ⟨j', oj', hj', hd', hlt, ha⟩ := (S i oi (Nat.zero_le _) hi).2.2.1 j oj hj d hd hin
 by_cases e : j = j'
 ·subst e; exact ⟨hlt, ha⟩
 ·exact absurd hd (D j' j oj' oj hj' hj e d hd')
variable {C : World → Prop} {F : Fence} {m : Nat}
theorem vals_of_walk {l : List Oper} {a0 : Act} {R : Act → Prop} (hd : ∀ (i j : Nat) (oi oj : Oper), l[i]? = some oi → l[j]? = some oj → j ≠ i → ∀ d, oi.dst = some d → oj.dst ≠ some d) :
  ∀ (t : List Oper) (k : Nat) (vs : Nat → Value), (∀ j, t[j]? = l[k + j]?) → k + t.length = l.length → wpQuiet P l.toArray C R t (putsG (fun j => decide (j < k)) vs 0 l a0) →
  ∃ vs' : Nat → Value, (∀ j, j < k → vs' j = vs j) ∧ (∀ (i : Nat) (o : Oper), k ≤ i → l[i]? = some o → YieldsIn P l.toArray C o (vs' i) (putsG (fun j => decide (j < i)) vs' 0 l a0)) ∧ R (putsG (fun j => decide (j < l.length)) vs' 0 l a0)
 | [], k, vs, hl, hk, h => by
  simp only [List.length_nil, Nat.add_zero] at hk
  subst hk
  refine ⟨vs, fun _ _ => rfl, fun i o hi ho => ?_, h⟩
  rw [List.getElem?_eq_none hi] at ho
  cases ho
 | o :: t, k, vs, hl, hk, h => by
  have h0 : l[k]? = some o := by simpa using (hl 0).symm
  have hq : qOp P l.toArray C k (wpQuiet P l.toArray C R t) (putsG (fun j => decide (j < k)) vs 0 l a0) := by
   unfold qOp
   simp only [List.getElem?_toArray, h0]
   exact h
  obtain ⟨v, hy, hK⟩ := yieldsIn_of_qOp (by simpa using h0) hq
  have hfire := putsG_fire l 0 a0 k o v (fun j => decide (j < k)) vs h0 (by simp) (fun j oj hj hne => hd k j o oj h0 hj hne)
  rw [Nat.zero_add] at hfire
  have hput : putsG (upd (fun j => decide (j < k)) k true) (upd vs k v) 0 l a0 = putsG (fun j => decide (j < k + 1)) (upd vs k v) 0 l a0 := by
   refine putsG_congr l 0 a0 _ _ _ _ (fun j _ _ => ⟨?_, fun _ => rfl⟩)
   by_cases hj : j = k
   ·subst hj; rw [upd_self]; simp
   ·rw [upd_ne _ _ hj]; exact decide_eq_decide.2 (by omega)
  rw [← hfire, hput] at hK
  obtain ⟨vs', h1, h2, h3⟩ := vals_of_walk hd t (k + 1) (upd vs k v) (fun j => by have := hl (j + 1); simpa [Nat.add_assoc, Nat.add_comm 1 j] using this) (by simp only [List.length_cons] at hk; omega) hK
  refine ⟨vs', fun j hj => by rw [h1 j (by omega), upd_ne _ _ (by omega)], fun i oi hi ho => ?_, h3⟩
  rcases Nat.eq_or_lt_of_le hi with rfl | hlt
  ·have : oi = o := Option.some.inj (ho.symm.trans h0)
   subst this
   rw [h1 k (by omega), upd_self]
   rw [putsG_congr l 0 a0 (fun j => decide (j < k)) (fun j => decide (j < k)) vs' vs (fun j _ _ => ⟨rfl, fun hj => by
    have hj' : j < k := by simpa using hj
    rw [h1 j (by omega), upd_ne _ _ (by omega)]⟩)]
   exact hy
  ·exact h2 i oi hlt ho
theorem quick_main (hF : Free F) {l : List Oper} {a0 : Act} {vs : Nat → Value} {Q : Exit → Act → World → Prop} (ok : QuickOk md l) (hnd : ∀ o ∈ l, ∀ q, o.op ≠ .defer q)
  (hy : ∀ (i : Nat) (o : Oper), l[i]? = some o → YieldsIn P l.toArray C o (vs i) (putsG (fun j => decide (j < i)) vs 0 l a0)) (hQ : ∀ w, C w → Q .normal (putsG (fun j => decide (j < l.length)) vs 0 l a0) w) :
  ∀ (fuel : Nat) (V : List Nat) (listed : Array Bool) (w : World), V.Nodup → (∀ i, i ∈ V ↔ listed.getD i true = false) → V.length = fuel → Closed md l.toArray listed → C w →
   wpAnyIn F m P md l.toArray Q fuel listed (putsG (fun j => listed.getD j false) vs 0 l a0) w := by
 intro fuel
 induction fuel with
 | zero =>
  intro V listed w hV hVm hVl hc hC
  have hnil : V = [] := List.eq_nil_of_length_eq_zero hVl
  subst hnil
  have hall : ∀ i, listed.getD i true = true := fun i => by
   cases hi : listed.getD i true with
   | true => rfl
   | false => have := (hVm i).2 hi; cases this
  refine ⟨?_, ?_⟩
  ·apply List.eq_nil_iff_forall_not_mem.2
   intro j hj
   have := (mem_ready.1 hj).1
   rw [hall] at this; cases this
  ·rw [putsG_congr l 0 a0 (fun j => listed.getD j false) (fun j => decide (j < l.length)) vs vs (fun j _ hj => ⟨?_, fun _ => rfl⟩)]
   ·exact hQ w hC
   ·cases hi : listed.getD j false with
    | true => simp; omega
    | false => have := getD_in (by rw [hc.1]; simpa using (show j < l.length by omega)) hi; rw [hall] at this; cases this
 | succ fuel ih =>
  intro V listed w hV hVm hVl hc hC
  refine ⟨fun h0 => ?_, fun i hir => ?_⟩
  ·obtain ⟨j, hj⟩ : ∃ j, j ∈ V := by
    cases V with
    | nil => cases hVl
    | cons x r => exact ⟨x, by simp⟩
   obtain ⟨k, hk⟩ := exists_ready' ok.edges hc j ((hVm j).1 hj)
   rw [h0] at hk; cases hk
  ·obtain ⟨hun, oi, hoi, hall⟩ := mem_ready.1 hir
   have hoi' : l[i]? = some oi := by simpa using hoi
   have hilt : i < l.length := (List.getElem?_eq_some_iff.1 hoi').1
   have hiV : i ∈ V := (hVm i).2 hun
   have hV' : (V.erase i).Nodup := hV.erase i
   have hVm' : ∀ j, j ∈ V.erase i ↔ (listed.setIfInBounds i true).getD j true = false := fun j => by
    by_cases hji : j = i
    ·subst hji
     rw [getD_set_true']
     simp [hV.not_mem_erase]
    ·rw [List.mem_erase_of_ne hji, hVm j, getD_set_ne true (Ne.symm hji)]
   have hVl' : (V.erase i).length = fuel := by rw [List.length_erase_of_mem hiV, hVl]; rfl
   have hc' := hc.set hir
   have hom : oi ∈ l := List.mem_of_getElem? hoi'
   have hfi : listed.getD i false = false := getD_both hun
   have hflag : (fun j => (listed.setIfInBounds i true).getD j false) = upd (fun j => listed.getD j false) i true := by
    funext j
    by_cases hji : j = i
    ·subst hji
     rw [upd_self]
     have : j < listed.size := by rw [hc.1]; simpa using hilt
     simp [this]
    ·rw [upd_ne _ _ hji, getD_set_ne false (Ne.symm hji)]
   have htm : ∀ t ∈ oi.looksAt l.toArray, (putsG (fun j => listed.getD j false) vs 0 l a0).tmps[t]? = (putsG (fun j => decide (j < i)) vs 0 l a0).tmps[t]? := fun t ht => by
    refine putsG_agree l 0 a0 a0 _ _ _ _ t rfl rfl (fun j oj hj hd => ?_)
    obtain ⟨hlt, ha⟩ := ok.looks i j oi oj hoi' hj t hd ht
    rw [Nat.zero_add]
    exact ⟨by show listed.getD j false = decide (j < i); rw [anc_ready hc ha hir, decide_eq_true hlt], fun _ => rfl⟩
   have hya := (hy i oi hoi').of_same (exec_same oi (fun cs b => ok.sel i oi cs b hoi') _ _ htm) (wanted_same oi _ _ htm)
   have hfire := putsG_fire l 0 a0 i oi (vs i) (fun j => listed.getD j false) vs hoi' (by rw [Nat.zero_add]; exact hfi) (fun j oj hj hne => ok.dsts i j oi oj hoi' hj hne)
   rw [Nat.zero_add] at hfire
   have hself : upd vs i (vs i) = vs := by
    funext j
    by_cases hji : j = i
    ·subst hji; rw [upd_self]
    ·rw [upd_ne _ _ hji]
   rw [hself, ← hflag] at hfire
   refine wpOpIn_of_qOpF (C := C) hF (by simpa using hnd) hC (K := fun a' => a' = putsG (fun j => (listed.setIfInBounds i true).getD j false) vs 0 l a0) (fun a' w' hw' e => by subst e; exact ih _ _ w' hV' hVm' hVl' hc' hw') ?_
   exact hya.qOp hoi hfire.symm
theorem wpIn_region_quick (hF : Free F) {id : Nat} {Q : Exit → Act → World → Prop} {a : Act} {w : World} {l : List Oper} (hm : P.follows .mixedOrders = true) (hnd : noDefer l = true) (hB : quickB .any l = true)
  (hC : C { w with drawn := w.drawn + 1 }) (h : wpQuiet P l.toArray C (fun a' => ∀ w', C w' → Q .normal a' w') l a) : (Code.region id l.toArray true).wpIn F m P Q a w := by
 have ok := quickOk hB
 have h00 : ∀ (vs : Nat → Value) (t : List Oper) k, putsG (fun _ => false) vs k t a = a := by
  intro vs t
  induction t with
  | nil => intro k; rfl
  | cons o t ih => intro k; simp only [putsG, Bool.false_eq_true, if_false]; exact ih _
 have e0 : ∀ vs : Nat → Value, putsG (fun j => decide (j < 0)) vs 0 l a = a := fun vs => by
  rw [putsG_congr l 0 a (fun j => decide (j < 0)) (fun _ => false) vs vs (fun j _ _ => ⟨by simp, fun _ => rfl⟩)]
  exact h00 vs l 0
 obtain ⟨vs, _, hy, hQ⟩ := vals_of_walk (C := C) (a0 := a) ok.dsts l 0 (fun _ => undef) (fun j => by simp) (by simp) (by rw [e0]; exact h)
 refine wpIn_region_any hm ?_
 have hf0 : (fun j => (Array.replicate l.toArray.size false).getD j false) = fun _ => false := by funext j; exact getD_replicate_false _ _
 have := quick_main (m := m) (C := C) (Q := Q) hF ok (noDefer_spec hnd) (fun i o ho => hy i o (Nat.zero_le _) ho) hQ l.toArray.size (List.range l.toArray.size) (Array.replicate l.toArray.size false) { w with drawn := w.drawn + 1 } List.nodup_range (fun i => ?_) (by simp) ⟨by simp, fun j oj _ hl => ?_⟩ hC
 ·rw [hf0, h00] at this
  exact this
 ·rw [List.mem_range]
  rcases Nat.lt_or_ge i l.toArray.size with h | h
  ·exact ⟨fun _ => getD_in (by simpa using h) (getD_replicate_false _ _), fun _ => h⟩
  ·refine ⟨fun h' => absurd h' (by omega), fun h' => ?_⟩
   simp only [List.size_toArray] at h
   simp [Array.getD, show ¬ i < l.length by omega] at h'
 ·rw [getD_replicate_false] at hl; cases hl
theorem wp_region_quick {id : Nat} {Q : Exit → Act → World → Prop} {a : Act} {w : World} {l : List Oper} (hm : P.follows .mixedOrders = true) (hnd : noDefer l = true) (hB : quickB .any l = true)
  (hC : C { w with drawn := w.drawn + 1 }) (h : wpQuiet P l.toArray C (fun a' => ∀ w', C w' → Q .normal a' w') l a) : (Code.region id l.toArray true).wp P Q a w :=
 wpIn_wide.1 (wpIn_region_quick (m := 0) free_wide hm hnd hB hC h)
end
abbrev W4 (a b c d : Int) : Value := .agg #[.int .u64 a, .int .u64 b, .int .u64 c, .int .u64 d]
theorem eq4 (a b c d a' b' c' d' : Int) (w : World) : (Op.equalIn 10000 24 (.agg #[.int .u64 a, .int .u64 b, .int .u64 c, .int .u64 d]) (.agg #[.int .u64 a', .int .u64 b', .int .u64 c', .int .u64 d'])).run Tryd.prog w = .ok (a == a' && b == b' && c == c' && d == d') w := by
 have u3 := Tryd.underlying22
 have a3 := Tryd.isAgg22
 have z3 := Tryd.sizeOf22
 rw [show (10000 : Nat) = 9999 + 1 from rfl, Op.equalIn]
 simp only [Sem.run_bind, run_underlying Tryd.underlying24, Result.andThen_ok]
 simp only [Std.Legacy.Range.forIn_eq_forIn_range', Std.Legacy.Range.size, Nat.sub_zero, Nat.add_sub_cancel, Nat.div_one, List.range'_succ, List.range'_zero, List.forIn_cons, List.forIn_nil]
 go_simp
 by_cases h1 : a = a' <;> by_cases h2 : b = b' <;> by_cases h3 : c = c' <;> by_cases h4 : d = d' <;> simp [h1, h2, h3, h4]
def Has (W : World) (B : Nat) (t : TypeId) (cs : Array Value) : Prop := W.heap[B]? = some (.cells cs t (0, 0))
theorem Has.lt {W : World} {B : Nat} {t : TypeId} {cs : Array Value} (h : Has W B t cs) : B < W.heap.size := (Array.getElem?_eq_some_iff.1 h).1
theorem Has.cell {W : World} {B : Nat} {t : TypeId} {cs : Array Value} (h : Has W B t cs) (j : Nat) (v : Value) (hj : cs[j]? = some v) : W.cell? ⟨B, j, none⟩ = some v := by
 unfold Has at h
 simp [World.cell?, h, hj]
theorem Has.frozen {W : World} {B : Nat} {t : TypeId} {cs : Array Value} (h : Has W B t cs) (j : Nat) : W.frozen? ⟨B, j, none⟩ = false := by
 unfold Has at h
 simp [World.frozen?, h]
theorem Has.new (W : World) (t : TypeId) (cs : Array Value) : Has (W.alloc (.cells cs t)) W.heap.size t cs := World.alloc_heap_new W _
theorem Has.below {W W' : World} {B n : Nat} {t : TypeId} {cs : Array Value} (h : Has W B t cs) (hb : Below n W W') (hn : B < n) : Has W' B t cs := (hb.block B hn).trans h
theorem Has.later {W W' : World} {B : Nat} {t : TypeId} {cs : Array Value} (h : Has W B t cs) (hb : Below W.heap.size W W') : Has W' B t cs := h.below hb h.lt
theorem Has.alloc {W : World} {B : Nat} {t : TypeId} {cs : Array Value} (h : Has W B t cs) (o : Obj) : Has (W.alloc o) B t cs := h.later ((Below.refl _ W).alloc (Nat.le_refl _) o)
theorem Has.other {W : World} {B : Nat} {t : TypeId} {cs : Array Value} (h : Has W B t cs) {p : Addr} (hne : B ≠ p.block) (v : Value) : Has (W.setCell p v) B t cs := (Below.heap_setCell W p v B hne).trans h
theorem Has.set {W : World} {B : Nat} {t : TypeId} {cs : Array Value} (h : Has W B t cs) (k : Nat) (v : Value) : Has (W.setCell ⟨B, k, none⟩ v) B t (cs.setIfInBounds k v) := by
 obtain ⟨hlt, he⟩ := Array.getElem?_eq_some_iff.1 h
 show (W.heap.modify B _)[B]? = _
 rw [Array.getElem?_eq_getElem (by rw [Array.size_modify]; exact hlt), Array.getElem_modify_self, he]
 rfl
theorem wp_region_quietL {P : Program} {C : World → Prop} {id : Nat} {Q : Exit → Act → World → Prop} {a : Act} {w : World} {l : List Oper} (hm : P.follows .mixedOrders = true) (hB : Region.lexB .any l.toArray = true)
  (hC : C { w with drawn := w.drawn + 1 }) (h : wpQuiet P l.toArray C (fun a' => ∀ w', C w' → Q .normal a' w') l a) : (Code.region id l.toArray true).wp P Q a w :=
 wp_region_quiet (C := C) hm hB hC (by simpa using h)
def cellsIf (b : Bool) (x y : Array Value) : Array Value := if b = true then x else y
theorem cellsIf_true (x y : Array Value) : cellsIf true x y = x := rfl
theorem cellsIf_false (x y : Array Value) : cellsIf false x y = y := rfl
theorem Ret.of_eq {P : Program} {f : FuncId} {args args' : Array Value} {v v' : Value} (h : Ret P f args v) (ha : args = args') (hv : v = v') : Ret P f args' v' := by subst ha; subst hv; exact h
theorem newA (w : World) (o : Obj) : Below w.heap.size w (w.alloc o) := (Below.refl w.heap.size w).alloc (Nat.le_refl _) o
theorem sT {α : Type} (l : List α) (i : Nat) (a : α) : l.toArray.setIfInBounds i a = (l.set i a).toArray := List.setIfInBounds_toArray l i a
theorem sS {α : Type} {x : α} {xs : List α} {i : Nat} {a : α} : (x :: xs).set (i + 1) a = x :: xs.set i a := List.set_cons_succ
theorem sZ {α : Type} {x : α} {xs : List α} {a : α} : (x :: xs).set 0 a = a :: xs := List.set_cons_zero
theorem hid {p : Prop} (h : p) : RowKit.Hid p := Lib.hid h
theorem newBox (w : World) (t : TypeId) (cs : Array Value) : ∃ V, w.alloc (.cells cs t) = V ∧ Has V w.heap.size t cs ∧ Below w.heap.size w V := ⟨_, rfl, Has.new w t cs, (Below.refl w.heap.size w).alloc (Nat.le_refl _) (.cells cs t)⟩
end
section
open Go Go.RowKit
attribute [local go_sem] Oper.semAt_some Grows wide_fn
def pickN (c m : Int) : Int := (if c < 0 then -(c + 1) else c) % m
theorem pickN_range (c m : Int) (hm : 0 < m) : 0 ≤ pickN c m ∧ pickN c m < m := by
 unfold pickN
 exact ⟨Int.emod_nonneg _ (by omega), Int.emod_lt_of_pos _ hm⟩
theorem ofN_nat (n : Nat) : ofN (n : Int) = n := by unfold ofN; rw [if_neg (by omega)]; omega
theorem pick_ret (c : Int) (hc : I64 c) (m : Int) (hm : 0 < m) (hm2 : m ≤ 4611686018427387903) : Ret Tryd.prog 10 #[.int .i64 c, .int .i64 m] (.int .i64 (pickN c m)) := by
 refine Ret.of_same fun w => ?_
 unfold I64 at hc
 unfold pickN
 by_cases h : c < 0
 ·rw [if_pos h]
  have h0 : (0 : Int) ≤ -(c + 1) := by omega
  have h1 : -(c + 1) < 9223372036854775808 := by omega
  have q0 := Int.emod_nonneg (-(c + 1)) (show m ≠ 0 by omega)
  have q1 := Int.emod_lt_of_pos (-(c + 1)) hm
  have e := Int.tmod_eq_emod_of_nonneg h0 (b := m)
  go_enter Tryd.func10, Tryd.ntmps10
  go_wp2
  go_ret
  exact ⟨rfl, rfl⟩
 ·rw [if_neg h]
  have q0 := Int.emod_nonneg c (show m ≠ 0 by omega)
  have q1 := Int.emod_lt_of_pos c hm
  have e := Int.tmod_eq_emod_of_nonneg (show 0 ≤ c by omega) (b := m)
  go_enter Tryd.func10, Tryd.ntmps10
  go_wp2
  go_ret
  exact ⟨rfl, rfl⟩
end
section
open Go
def limI (x a b : Int) : Int := if x < a then a else if b < x then b else x
theorem limI_range (x a b : Int) (h : a ≤ b) : a ≤ limI x a b ∧ limI x a b ≤ b := by unfold limI; split <;> (try split) <;> omega
def manyN (n : Int) : Int := limI n 0 1048576
theorem manyN_range (n : Int) : 0 ≤ manyN n ∧ manyN n ≤ 1048576 := limI_range _ _ _ (by decide)
def wordsN (n : Int) : Int := (manyN n + 31) / 32
theorem wordsN_range (n : Int) : 0 ≤ wordsN n ∧ wordsN n ≤ 32768 := by have := manyN_range n; unfold wordsN; omega
theorem manyN_in {n : Int} (h0 : 0 ≤ n) (h1 : n ≤ 1048576) : manyN n = n := by unfold manyN limI; rw [if_neg (by omega), if_neg (by omega)]
def initN (n : Int) (salted : Bool) : Int := 2 * wordsN n + (if salted then 6 * wordsN n else 0)
theorem initN_range (n : Int) (s : Bool) : 0 ≤ initN n s ∧ initN n s ≤ 262144 := by have := wordsN_range n; unfold initN; split <;> omega
def touchN (slot warm : Bool) : Int := if warm then 100 else if slot then 2100 else 2600
def backN (used refund : Int) : Int := limI refund 0 ((if used < 0 then 0 else used) / 5)
def firstN (o : Nat) : Int := if o = 0 then 20000 else 2900
def writtenN (o c v : Nat) : Int := if c = v ∨ o ≠ c then 100 else firstN o
def clearedN (o c v : Nat) : Int := if o = 0 then 0 else if c = 0 then -4800 else if v = 0 then 4800 else 0
def restoredN (o c v : Nat) : Int := if o = c ∨ o ≠ v then 0 else firstN o - 100
def refundedN (o c v : Nat) : Int := if c = v then 0 else clearedN o c v + restoredN o c v
def costN (o c v : Nat) (warm : Bool) : Int := writtenN o c v + (if warm then 0 else 2100)
def storeV (o c v : Nat) (warm : Bool) : Value := .tuple #[.int .i64 (costN o c v warm), .int .i64 (refundedN o c v)]
theorem firstN_cases (o : Nat) : firstN o = 20000 ∨ firstN o = 2900 := by unfold firstN; split <;> omega
theorem writtenN_range (o c v : Nat) : 100 ≤ writtenN o c v ∧ writtenN o c v ≤ 20000 := by have := firstN_cases o; unfold writtenN; split <;> omega
def callingN (warm value fresh : Bool) : Int := (if warm then 100 else 2600) + (if value then 9000 else 0) + (if value && fresh then 25000 else 0)
theorem callingN_range (a b c : Bool) : 100 ≤ callingN a b c ∧ callingN a b c ≤ 36600 := by cases a <;> cases b <;> cases c <;> decide
def mostN (rest : Int) : Int := rest - rest / 64
def ownN (rest : Int) (asked : Nat) : Nat := min asked (mostN rest).toNat
def callV (left : Int) (asked : Nat) (warm value fresh : Bool) : Value :=
 if left < callingN warm value fresh ∨ 9007199254740992 < left then .tuple #[.int .i64 0, .int .i64 0, .bool false]
 else .tuple #[.int .i64 (callingN warm value fresh + (ownN (left - callingN warm value fresh) asked : Nat)), .int .i64 ((ownN (left - callingN warm value fresh) asked : Nat) + (if value then 2300 else 0)), .bool true]
end
end Go.Proofs.YtlihnlkcgiopoaaDoor
