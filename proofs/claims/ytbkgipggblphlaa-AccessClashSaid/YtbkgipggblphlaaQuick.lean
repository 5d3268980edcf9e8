/- A region of quiet operations that draws its order: one walk in the order of the text, by a check of masks that is quick to run. -/
import Derived.Test.YtbkgipggblphlaaGhost
namespace Go.Proofs.Ytbkgipggblphlaa
open Go Go.RowKit

section
variable {P : Program} {md : Region.Mode}

/-- What an operation waits for, at all. -/
inductive Anc (md : Region.Mode) (ops : Array Oper) : Nat → Nat → Prop
  | one {i j : Nat} (h : Region.waitsFor md ops i j = true) : Anc md ops i j
  | step {i k j : Nat} (h : Region.waitsFor md ops i k = true) (t : Anc md ops k j) : Anc md ops i j

theorem anc_listed {ops : Array Oper} {listed : Array Bool} (hc : Closed md ops listed) {i j : Nat} (h : Anc md ops i j) : listed.getD i false = true → listed.getD j false = true := by
  induction h with
  | one h => exact fun hl => closed_waits hc hl h
  | step h _ ih => exact fun hl => ih (closed_waits hc hl h)
theorem anc_ready {ops : Array Oper} {listed : Array Bool} (hc : Closed md ops listed) {i j : Nat} (h : Anc md ops i j) (hr : i ∈ Region.ready md ops listed) : listed.getD j false = true := by
  cases h with
  | one h => exact ready_waits hr h
  | step h t => exact anc_listed hc t (ready_waits hr h)

structure QuickOk (md : Region.Mode) (l : List Oper) : Prop where
  sel : ∀ (j : Nat) (o : Oper) cs b, l[j]? = some o → o.op ≠ .select cs b
  edges : ∀ (j : Nat) (oj : Oper), l[j]? = some oj → ∀ e ∈ oj.after, Region.binds md e = true → e.on < j
  looks : ∀ (i j : Nat) (oi oj : Oper), l[i]? = some oi → l[j]? = some oj → ∀ d, oj.dst = some d → d ∈ oi.looksAt l.toArray → j < i ∧ Anc md l.toArray i j
  dsts : ∀ (i j : Nat) (oi oj : Oper), l[i]? = some oi → l[j]? = some oj → j ≠ i → ∀ d, oi.dst = some d → oj.dst ≠ some d

/-- The bit of the slot that an operation puts to. -/
def dstBit (o : Oper) : Nat := match o.dst with | some d => 2 ^ d | none => 0
/-- All slots that are put to. -/
def allBits : List Oper → Nat
  | [] => 0
  | o :: l => dstBit o ||| allBits l
/-- The slots of what an operation waits for: 'ms' the masks of the operations ahead, the last one first. -/
def upBits (md : Region.Mode) (i : Nat) (ms : List Nat) : List Edge → Nat
  | [] => 0
  | e :: r => (if Region.binds md e then ms.getD (i - 1 - e.on) 0 else 0) ||| upBits md i ms r
def looksOp (ops : Array Oper) (o : Oper) (W m : Nat) : Bool := (o.looksAt ops).all fun t => !W.testBit t || m.testBit t
def quickGo (md : Region.Mode) (ops : Array Oper) (W : Nat) : Nat → List Oper → List Nat → Nat → Bool
  | _, [], _, _ => true
  | i, o :: l, ms, seen =>
    (match o.op with | .select .. => false | _ => true) &&
    (o.after.toList.all fun e => !Region.binds md e || decide (e.on < i)) &&
    (match o.dst with | some d => !seen.testBit d | none => true) &&
    (let m := upBits md i ms o.after.toList
     looksOp ops o W m && quickGo md ops W (i + 1) l ((m ||| dstBit o) :: ms) (seen ||| dstBit o))
def quickB (md : Region.Mode) (l : List Oper) : Bool := quickGo md l.toArray (allBits l) 0 l [] 0

theorem dstBit_spec {o : Oper} {t : Nat} : (dstBit o).testBit t = true ↔ o.dst = some t := by
  unfold dstBit
  cases o.dst with
  | none => simp
  | some d => rw [Nat.testBit_two_pow]; simp
theorem allBits_spec : ∀ (l : List Oper) (t : Nat), (allBits l).testBit t = true ↔ ∃ (j : Nat) (o : Oper), l[j]? = some o ∧ o.dst = some t
  | [], t => by simp [allBits]
  | o :: l, t => by
    rw [allBits, Nat.testBit_or, Bool.or_eq_true, dstBit_spec, allBits_spec l t]
    constructor
    · rintro (h | ⟨j, p, hj, hp⟩)
      · exact ⟨0, o, rfl, h⟩
      · exact ⟨j + 1, p, by simpa using hj, hp⟩
    · rintro ⟨j, p, hj, hp⟩
      cases j with
      | zero => left; have : o = p := by simpa using hj
                rw [this]; exact hp
      | succ j => exact .inr ⟨j, p, by simpa using hj, hp⟩

/-- What a mask of an operation says: each of its slots is put to by the operation, or by one it waits for. -/
def MaskOk (md : Region.Mode) (l : List Oper) (k m : Nat) : Prop := ∀ t, m.testBit t = true → ∃ (j : Nat) (oj : Oper), l[j]? = some oj ∧ oj.dst = some t ∧ j ≤ k ∧ (j = k ∨ Anc md l.toArray k j)

theorem upBits_spec {l : List Oper} {i : Nat} {ms : List Nat} (hms : ∀ k, k < i → MaskOk md l k (ms.getD (i - 1 - k) 0)) : ∀ (es : List Edge), (∀ e ∈ es, Region.binds md e = true → e.on < i) → ∀ t, (upBits md i ms es).testBit t = true →
    ∃ e ∈ es, Region.binds md e = true ∧ ∃ (j : Nat) (oj : Oper), l[j]? = some oj ∧ oj.dst = some t ∧ j ≤ e.on ∧ (j = e.on ∨ Anc md l.toArray e.on j)
  | [], _, t, h => by simp [upBits] at h
  | e :: r, he, t, h => by
    rw [upBits, Nat.testBit_or, Bool.or_eq_true] at h
    rcases h with h | h
    · by_cases hb : Region.binds md e = true
      · rw [if_pos hb] at h
        exact ⟨e, by simp, hb, hms e.on (he e (by simp) hb) t h⟩
      · rw [if_neg hb] at h; simp at h
    · obtain ⟨e', he', rest⟩ := upBits_spec hms r (fun x hx => he x (by simp [hx])) t h
      exact ⟨e', by simp [he'], rest⟩

theorem quickGo_spec {l : List Oper} : ∀ (r : List Oper) (i : Nat) (ms : List Nat) (seen : Nat), (∀ j, r[j]? = l[i + j]?) → (∀ k, k < i → MaskOk md l k (ms.getD (i - 1 - k) 0)) →
    (∀ (j : Nat) (oj : Oper), j < i → l[j]? = some oj → ∀ d, oj.dst = some d → seen.testBit d = true) → quickGo md l.toArray (allBits l) i r ms seen = true →
    ∀ (k : Nat) (o : Oper), i ≤ k → l[k]? = some o → (∀ cs b, o.op ≠ .select cs b) ∧ (∀ e ∈ o.after, Region.binds md e = true → e.on < k) ∧
      (∀ (j : Nat) (oj : Oper), l[j]? = some oj → ∀ d, oj.dst = some d → d ∈ o.looksAt l.toArray → ∃ (j' : Nat) (oj' : Oper), l[j']? = some oj' ∧ oj'.dst = some d ∧ j' < k ∧ Anc md l.toArray k j') ∧
      (∀ (j : Nat) (oj : Oper), j < k → l[j]? = some oj → ∀ d, o.dst = some d → oj.dst ≠ some d)
  | [], i, ms, seen, hr, _, _, _, k, o, hk, ho => by
    have := hr (k - i)
    rw [show i + (k - i) = k by omega, ho] at this
    simp at this
  | p :: r, i, ms, seen, hr, hms, hseen, h, k, o, hk, ho => by
    have h0 : l[i]? = some p := by simpa using (hr 0).symm
    rw [quickGo] at h
    simp only [Bool.and_eq_true] at h
    obtain ⟨⟨⟨h1, h2⟩, h3⟩, h4, h5⟩ := h
    have hes : ∀ e ∈ p.after.toList, Region.binds md e = true → e.on < i := fun e he hb => by
      have := List.all_eq_true.1 h2 e he
      rw [hb] at this
      simpa using this
    have hup := upBits_spec (md := md) (l := l) hms p.after.toList hes
    rcases Nat.eq_or_lt_of_le hk with rfl | hlt
    · have : o = p := Option.some.inj (ho.symm.trans h0)
      subst this
      refine ⟨fun cs b e => ?_, fun e he => hes e (by simpa using he), fun j oj hj d hd hin => ?_, fun j oj hjk hj d hd hd' => ?_⟩
      · rw [e] at h1
        cases h1
      · have := List.all_eq_true.1 h4 d hin
        rw [(allBits_spec l d).2 ⟨j, oj, hj, hd⟩] at this
        obtain ⟨e, he, hb, j', oj', hj', hd', hle, hor⟩ := hup d (by simpa using this)
        have hlt := hes e he hb
        have hw : Region.waitsFor md l.toArray i e.on = true := by
          unfold Region.waitsFor
          simp only [List.getElem?_toArray, h0]
          exact Array.any_eq_true'.2 ⟨e, by simpa using he, by simp [hb]⟩
        refine ⟨j', oj', hj', hd', by omega, ?_⟩
        rcases hor with rfl | ha
        · exact .one hw
        · exact .step hw ha
      · rw [hd] at h3
        simp only [] at h3
        rw [hseen j oj hjk hj d hd'] at h3
        cases h3
    · refine quickGo_spec r (i + 1) _ _ (fun j => ?_) (fun k' hk' => ?_) (fun j oj hj hl d hd => ?_) h5 k o hlt ho
      · have := hr (j + 1)
        rw [show i + (j + 1) = i + 1 + j by omega] at this
        simpa using this
      · rcases Nat.lt_succ_iff_lt_or_eq.1 hk' with h' | rfl
        · rw [show i + 1 - 1 - k' = (i - 1 - k') + 1 by omega, List.getD_cons_succ]
          exact hms k' h'
        · rw [show k' + 1 - 1 - k' = 0 by omega, List.getD_cons_zero]
          intro t ht
          rw [Nat.testBit_or, Bool.or_eq_true] at ht
          rcases ht with ht | ht
          · obtain ⟨e, he, hb, j', oj', hj', hd', hle, hor⟩ := hup t ht
            have hlt := hes e he hb
            have hw : Region.waitsFor md l.toArray k' e.on = true := by
              unfold Region.waitsFor
              simp only [List.getElem?_toArray, h0]
              exact Array.any_eq_true'.2 ⟨e, by simpa using he, by simp [hb]⟩
            refine ⟨j', oj', hj', hd', by omega, .inr ?_⟩
            rcases hor with rfl | ha
            · exact .one hw
            · exact .step hw ha
          · exact ⟨k', p, h0, dstBit_spec.1 ht, Nat.le_refl _, .inl rfl⟩
      · rw [Nat.testBit_or, Bool.or_eq_true]
        rcases Nat.lt_succ_iff_lt_or_eq.1 hj with h' | rfl
        · exact .inl (hseen j oj h' hl d hd)
        · have : oj = p := Option.some.inj (hl.symm.trans h0)
          subst this
          exact .inr (dstBit_spec.2 hd)

theorem quickOk {l : List Oper} (h : quickB md l = true) : QuickOk md l := by
  have S := quickGo_spec (md := md) (l := l) l 0 [] 0 (fun j => by simp) (fun k hk => by omega) (fun j _ hj => by omega) h
  have D : ∀ (i j : Nat) (oi oj : Oper), l[i]? = some oi → l[j]? = some oj → j ≠ i → ∀ d, oi.dst = some d → oj.dst ≠ some d := fun i j oi oj hi hj hne d hd hd' => by
    rcases Nat.lt_or_gt_of_ne hne with hlt | hlt
    · exact (S i oi (Nat.zero_le _) hi).2.2.2 j oj hlt hj d hd hd'
    · exact (S j oj (Nat.zero_le _) hj).2.2.2 i oi hlt hi d hd' hd
  refine ⟨fun j o cs b hj => (S j o (Nat.zero_le _) hj).1 cs b, fun j oj hj => (S j oj (Nat.zero_le _) hj).2.1, fun i j oi oj hi hj d hd hin => ?_, D⟩
  obtain ⟨j', oj', hj', hd', hlt, ha⟩ := (S i oi (Nat.zero_le _) hi).2.2.1 j oj hj d hd hin
  by_cases e : j = j'
  · subst e; exact ⟨hlt, ha⟩
  · exact absurd hd (D j' j oj' oj hj' hj e d hd')

variable {C : World → Prop} {F : Fence} {m : Nat}

/-- The values that a walk tells. -/
theorem vals_of_walk {l : List Oper} {a0 : Act} {R : Act → Prop} (hd : ∀ (i j : Nat) (oi oj : Oper), l[i]? = some oi → l[j]? = some oj → j ≠ i → ∀ d, oi.dst = some d → oj.dst ≠ some d) :
    ∀ (t : List Oper) (k : Nat) (vs : Nat → Value), (∀ j, t[j]? = l[k + j]?) → k + t.length = l.length → wpQuiet P l.toArray C R t (putsG (fun j => decide (j < k)) vs 0 l a0) →
    ∃ vs' : Nat → Value, (∀ j, j < k → vs' j = vs j) ∧ (∀ (i : Nat) (o : Oper), k ≤ i → l[i]? = some o → YieldsIn P l.toArray C o (vs' i) (putsG (fun j => decide (j < i)) vs' 0 l a0)) ∧ R (putsG (fun j => decide (j < l.length)) vs' 0 l a0)
  | [], k, vs, hl, hk, h => by
    simp only [List.length_nil, Nat.add_zero] at hk
    subst hk
    refine ⟨vs, fun _ _ => rfl, fun i o hi ho => ?_, h⟩
    rw [List.getElem?_eq_none hi] at ho
    cases ho
  | o :: t, k, vs, hl, hk, h => by
    have h0 : l[k]? = some o := by simpa using (hl 0).symm
    have hq : qOp P l.toArray C k (wpQuiet P l.toArray C R t) (putsG (fun j => decide (j < k)) vs 0 l a0) := by
      unfold qOp
      simp only [List.getElem?_toArray, h0]
      exact h
    obtain ⟨v, hy, hK⟩ := yieldsIn_of_qOp (by simpa using h0) hq
    have hfire := putsG_fire l 0 a0 k o v (fun j => decide (j < k)) vs h0 (by simp) (fun j oj hj hne => hd k j o oj h0 hj hne)
    rw [Nat.zero_add] at hfire
    have hput : putsG (upd (fun j => decide (j < k)) k true) (upd vs k v) 0 l a0 = putsG (fun j => decide (j < k + 1)) (upd vs k v) 0 l a0 := by
      refine putsG_congr l 0 a0 _ _ _ _ (fun j _ _ => ⟨?_, fun _ => rfl⟩)
      by_cases hj : j = k
      · subst hj; rw [upd_self]; simp
      · rw [upd_ne _ _ hj]; exact decide_eq_decide.2 (by omega)
    rw [← hfire, hput] at hK
    obtain ⟨vs', h1, h2, h3⟩ := vals_of_walk hd t (k + 1) (upd vs k v) (fun j => by have := hl (j + 1); simpa [Nat.add_assoc, Nat.add_comm 1 j] using this) (by simp only [List.length_cons] at hk; omega) hK
    refine ⟨vs', fun j hj => by rw [h1 j (by omega), upd_ne _ _ (by omega)], fun i oi hi ho => ?_, h3⟩
    rcases Nat.eq_or_lt_of_le hi with rfl | hlt
    · have : oi = o := Option.some.inj (ho.symm.trans h0)
      subst this
      rw [h1 k (by omega), upd_self]
      rw [putsG_congr l 0 a0 (fun j => decide (j < k)) (fun j => decide (j < k)) vs' vs (fun j _ _ => ⟨rfl, fun hj => by
        have hj' : j < k := by simpa using hj
        rw [h1 j (by omega), upd_ne _ _ (by omega)]⟩)]
      exact hy
    · exact h2 i oi hlt ho

theorem quick_main (hF : Free F) {l : List Oper} {a0 : Act} {vs : Nat → Value} {Q : Exit → Act → World → Prop} (ok : QuickOk md l) (hnd : ∀ o ∈ l, ∀ q, o.op ≠ .defer q)
    (hy : ∀ (i : Nat) (o : Oper), l[i]? = some o → YieldsIn P l.toArray C o (vs i) (putsG (fun j => decide (j < i)) vs 0 l a0)) (hQ : ∀ w, C w → Q .normal (putsG (fun j => decide (j < l.length)) vs 0 l a0) w) :
    ∀ (fuel : Nat) (V : List Nat) (listed : Array Bool) (w : World), V.Nodup → (∀ i, i ∈ V ↔ listed.getD i true = false) → V.length = fuel → Closed md l.toArray listed → C w →
      wpAnyIn F m P md l.toArray Q fuel listed (putsG (fun j => listed.getD j false) vs 0 l a0) w := by
  intro fuel
  induction fuel with
  | zero =>
    intro V listed w hV hVm hVl hc hC
    have hnil : V = [] := List.eq_nil_of_length_eq_zero hVl
    subst hnil
    have hall : ∀ i, listed.getD i true = true := fun i => by
      cases hi : listed.getD i true with
      | true => rfl
      | false => have := (hVm i).2 hi; cases this
    refine ⟨?_, ?_⟩
    · apply List.eq_nil_iff_forall_not_mem.2
      intro j hj
      have := (mem_ready.1 hj).1
      rw [hall] at this; cases this
    · rw [putsG_congr l 0 a0 (fun j => listed.getD j false) (fun j => decide (j < l.length)) vs vs (fun j _ hj => ⟨?_, fun _ => rfl⟩)]
      · exact hQ w hC
      · cases hi : listed.getD j false with
        | true => simp; omega
        | false => have := getD_in (by rw [hc.1]; simpa using (show j < l.length by omega)) hi; rw [hall] at this; cases this
  | succ fuel ih =>
    intro V listed w hV hVm hVl hc hC
    refine ⟨fun h0 => ?_, fun i hir => ?_⟩
    · obtain ⟨j, hj⟩ : ∃ j, j ∈ V := by
        cases V with
        | nil => cases hVl
        | cons x r => exact ⟨x, by simp⟩
      obtain ⟨k, hk⟩ := exists_ready' ok.edges hc j ((hVm j).1 hj)
      rw [h0] at hk; cases hk
    · obtain ⟨hun, oi, hoi, hall⟩ := mem_ready.1 hir
      have hoi' : l[i]? = some oi := by simpa using hoi
      have hilt : i < l.length := (List.getElem?_eq_some_iff.1 hoi').1
      have hiV : i ∈ V := (hVm i).2 hun
      have hV' : (V.erase i).Nodup := hV.erase i
      have hVm' : ∀ j, j ∈ V.erase i ↔ (listed.setIfInBounds i true).getD j true = false := fun j => by
        by_cases hji : j = i
        · subst hji
          rw [getD_set_true']
          simp [hV.not_mem_erase]
        · rw [List.mem_erase_of_ne hji, hVm j, getD_set_ne true (Ne.symm hji)]
      have hVl' : (V.erase i).length = fuel := by rw [List.length_erase_of_mem hiV, hVl]; rfl
      have hc' := hc.set hir
      have hom : oi ∈ l := List.mem_of_getElem? hoi'
      have hfi : listed.getD i false = false := getD_both hun
      have hflag : (fun j => (listed.setIfInBounds i true).getD j false) = upd (fun j => listed.getD j false) i true := by
        funext j
        by_cases hji : j = i
        · subst hji
          rw [upd_self]
          have : j < listed.size := by rw [hc.1]; simpa using hilt
          simp [this]
        · rw [upd_ne _ _ hji, getD_set_ne false (Ne.symm hji)]
      have htm : ∀ t ∈ oi.looksAt l.toArray, (putsG (fun j => listed.getD j false) vs 0 l a0).tmps[t]? = (putsG (fun j => decide (j < i)) vs 0 l a0).tmps[t]? := fun t ht => by
        refine putsG_agree l 0 a0 a0 _ _ _ _ t rfl rfl (fun j oj hj hd => ?_)
        obtain ⟨hlt, ha⟩ := ok.looks i j oi oj hoi' hj t hd ht
        rw [Nat.zero_add]
        exact ⟨by show listed.getD j false = decide (j < i); rw [anc_ready hc ha hir, decide_eq_true hlt], fun _ => rfl⟩
      have hya := (hy i oi hoi').of_same (exec_same oi (fun cs b => ok.sel i oi cs b hoi') _ _ htm) (wanted_same oi _ _ htm)
      have hfire := putsG_fire l 0 a0 i oi (vs i) (fun j => listed.getD j false) vs hoi' (by rw [Nat.zero_add]; exact hfi) (fun j oj hj hne => ok.dsts i j oi oj hoi' hj hne)
      rw [Nat.zero_add] at hfire
      have hself : upd vs i (vs i) = vs := by
        funext j
        by_cases hji : j = i
        · subst hji; rw [upd_self]
        · rw [upd_ne _ _ hji]
      rw [hself, ← hflag] at hfire
      refine wpOpIn_of_qOpF (C := C) hF (by simpa using hnd) hC (K := fun a' => a' = putsG (fun j => (listed.setIfInBounds i true).getD j false) vs 0 l a0) (fun a' w' hw' e => by subst e; exact ih _ _ w' hV' hVm' hVl' hc' hw') ?_
      exact hya.qOp hoi hfire.symm

/-- A region of quiet operations. -/
theorem wpIn_region_quick (hF : Free F) {id : Nat} {Q : Exit → Act → World → Prop} {a : Act} {w : World} {l : List Oper} (hm : P.follows .mixedOrders = true) (hnd : noDefer l = true) (hB : quickB .any l = true)
    (hC : C { w with drawn := w.drawn + 1 }) (h : wpQuiet P l.toArray C (fun a' => ∀ w', C w' → Q .normal a' w') l a) : (Code.region id l.toArray true).wpIn F m P Q a w := by
  have ok := quickOk hB
  have h00 : ∀ (vs : Nat → Value) (t : List Oper) k, putsG (fun _ => false) vs k t a = a := by
    intro vs t
    induction t with
    | nil => intro k; rfl
    | cons o t ih => intro k; simp only [putsG, Bool.false_eq_true, if_false]; exact ih _
  have e0 : ∀ vs : Nat → Value, putsG (fun j => decide (j < 0)) vs 0 l a = a := fun vs => by
    rw [putsG_congr l 0 a (fun j => decide (j < 0)) (fun _ => false) vs vs (fun j _ _ => ⟨by simp, fun _ => rfl⟩)]
    exact h00 vs l 0
  obtain ⟨vs, _, hy, hQ⟩ := vals_of_walk (C := C) (a0 := a) ok.dsts l 0 (fun _ => undef) (fun j => by simp) (by simp) (by rw [e0]; exact h)
  refine wpIn_region_any hm ?_
  have hf0 : (fun j => (Array.replicate l.toArray.size false).getD j false) = fun _ => false := by funext j; exact getD_replicate_false _ _
  have := quick_main (m := m) (C := C) (Q := Q) hF ok (noDefer_spec hnd) (fun i o ho => hy i o (Nat.zero_le _) ho) hQ l.toArray.size (List.range l.toArray.size) (Array.replicate l.toArray.size false) { w with drawn := w.drawn + 1 } List.nodup_range (fun i => ?_) (by simp) ⟨by simp, fun j oj _ hl => ?_⟩ hC
  · rw [hf0, h00] at this
    exact this
  · rw [List.mem_range]
    rcases Nat.lt_or_ge i l.toArray.size with h | h
    · exact ⟨fun _ => getD_in (by simpa using h) (getD_replicate_false _ _), fun _ => h⟩
    · refine ⟨fun h' => absurd h' (by omega), fun h' => ?_⟩
      simp only [List.size_toArray] at h
      simp [Array.getD, show ¬ i < l.length by omega] at h'
  · rw [getD_replicate_false] at hl; cases hl

/-- The same for the plain walk. -/
theorem wp_region_quick {id : Nat} {Q : Exit → Act → World → Prop} {a : Act} {w : World} {l : List Oper} (hm : P.follows .mixedOrders = true) (hnd : noDefer l = true) (hB : quickB .any l = true)
    (hC : C { w with drawn := w.drawn + 1 }) (h : wpQuiet P l.toArray C (fun a' => ∀ w', C w' → Q .normal a' w') l a) : (Code.region id l.toArray true).wp P Q a w :=
  wpIn_wide.1 (wpIn_region_quick (m := 0) free_wide hm hnd hB hC h)
end
end Go.Proofs.Ytbkgipggblphlaa
