/- Part. -/
import Derived.Test.YtahjgllnfbejmaaG01
import Derived.RangeFuncNested
import Derived.RangeFuncBound
import Derived.RangeFuncCalls
import Derived.RangeFuncLeaves
import Derived.RangeFuncBox
import Derived.Shelf.Abstract
import Derived.Shelf.RegionOpen
import Derived.WalkKit
import Derived.OwnWalkIn
import Derived.TacticsInMore
import Derived.LoopNIn
import Derived.LoopIn
import Derived.Lib.Hide
import Derived.Test.YtahjgllnfbejmaaProg
set_option maxRecDepth 100000
set_option maxHeartbeats 16000000
namespace Go.Proofs.Ytahjgllnfbejmaa
section
open Go Go.RowKit Go.BigFrame
def upd {α : Type} (f : Nat → α) (i : Nat) (u : α) : Nat → α := fun j => if j = i then u else f j
theorem upd_self {α : Type} (f : Nat → α) (i : Nat) (u : α) : upd f i u i = u := by simp [upd]
theorem upd_ne {α : Type} (f : Nat → α) {i j : Nat} (u : α) (h : j ≠ i) : upd f i u j = f j := by simp [upd, h]
def putsG (f : Nat → Bool) (g : Nat → Value) : Nat → List Oper → Act → Act
 | _, [], a => a
 | k, o :: l, a => putsG f g (k + 1) l (if f k = true then a.put o.dst (g k) else a)
theorem putsG_congr : ∀ (l : List Oper) (k : Nat) (a : Act) (f f' : Nat → Bool) (g g' : Nat → Value), (∀ j, k ≤ j → j < k + l.length → f j = f' j ∧ (f j = true → g j = g' j)) → putsG f g k l a = putsG f' g' k l a
 | [], _, _, _, _, _, _, _ => rfl
 | o :: l, k, a, f, f', g, g', h => by
  simp only [putsG]
  obtain ⟨h1, h2⟩ := h k (Nat.le_refl _) (by simp)
  have e : (if f k = true then a.put o.dst (g k) else a) = (if f' k = true then a.put o.dst (g' k) else a) := by
   rw [← h1]
   split
   ·rename_i ht; rw [h2 ht]
   ·rfl
  rw [e]
  exact putsG_congr l (k + 1) _ f f' g g' (fun j h3 h4 => h j (by omega) (by simp only [List.length_cons]; omega))
theorem putsG_put : ∀ (l : List Oper) (k : Nat) (a : Act) (d : Option Tmp) (u : Value) (f : Nat → Bool) (g : Nat → Value), (∀ o ∈ l, ∀ e, d = some e → o.dst ≠ some e) → putsG f g k l (a.put d u) = (putsG f g k l a).put d u
 | [], _, _, _, _, _, _, _ => rfl
 | o :: l, k, a, d, u, f, g, h => by
  simp only [putsG]
  have hr := fun b => putsG_put l (k + 1) b d u f g (fun o ho => h o (by simp [ho]))
  split
  ·rw [Act.put_comm a u (g k) (h o (by simp)), hr]
  ·rw [hr]
theorem putsG_fire : ∀ (l : List Oper) (k : Nat) (a : Act) (i : Nat) (o : Oper) (u : Value) (f : Nat → Bool) (g : Nat → Value), l[i]? = some o → f (k + i) = false →
  (∀ j oj, l[j]? = some oj → j ≠ i → ∀ e, o.dst = some e → oj.dst ≠ some e) → putsG (upd f (k + i) true) (upd g (k + i) u) k l a = (putsG f g k l a).put o.dst u
 | [], _, _, _, _, _, _, _, h, _, _ => by simp at h
 | p :: l, k, a, 0, o, u, f, g, h, hf, hd => by
  have hp : p = o := by simpa using h
  subst hp
  have hf' : f k = false := by simpa using hf
  simp only [putsG, Nat.add_zero, upd_self, if_true, hf', Bool.false_eq_true, if_false]
  rw [putsG_put l (k + 1) a p.dst u _ _ (fun q hq e he => by
   obtain ⟨j, hj⟩ := List.getElem?_of_mem hq
   exact hd (j + 1) q (by simpa using hj) (by omega) e he)]
  rw [putsG_congr l (k + 1) a (upd f k true) f (upd g k u) g (fun j h1 h2 => ⟨upd_ne _ _ (by omega), fun _ => upd_ne _ _ (by omega)⟩)]
 | p :: l, k, a, i + 1, o, u, f, g, h, hf, hd => by
  simp only [putsG]
  rw [upd_ne _ _ (show k ≠ k + (i + 1) by omega), upd_ne _ _ (show k ≠ k + (i + 1) by omega)]
  have e : k + (i + 1) = (k + 1) + i := by omega
  rw [e]
  exact putsG_fire l (k + 1) _ i o u f g (by simpa using h) (by rw [← e]; exact hf) (fun j oj hj hne e he => hd (j + 1) oj (by simpa using hj) (by omega) e he)
theorem putsG_agree : ∀ (l : List Oper) (k : Nat) (a a' : Act) (f f' : Nat → Bool) (g g' : Nat → Value) (t : Tmp), a.tmps.size = a'.tmps.size → a.tmps[t]? = a'.tmps[t]? →
  (∀ j oj, l[j]? = some oj → oj.dst = some t → f (k + j) = f' (k + j) ∧ (f (k + j) = true → g (k + j) = g' (k + j))) → (putsG f g k l a).tmps[t]? = (putsG f' g' k l a').tmps[t]?
 | [], _, _, _, _, _, _, _, _, _, h, _ => h
 | o :: l, k, a, a', f, f', g, g', t, hs, h, hj => by
  simp only [putsG]
  refine putsG_agree l (k + 1) _ _ f f' g g' t ?_ ?_ (fun j oj hl hd => by
   have := hj (j + 1) oj (by simpa using hl) hd
   rwa [show k + (j + 1) = k + 1 + j by omega] at this)
  ·have hz : ∀ (b : Act) (u : Value), (b.put o.dst u).tmps.size = b.tmps.size := fun b u => by
    cases o.dst <;> simp [Act.put]
   split <;> split <;> simp only [hz, hs]
  ·by_cases hd : o.dst = some t
   ·obtain ⟨h1, h2⟩ := hj 0 o rfl hd
    simp only [Nat.add_zero] at h1 h2
    rw [← h1]
    split
    ·rename_i hf
     rw [h2 hf]
     simp only [Act.put, hd]
     simp only [Array.getElem?_setIfInBounds_self, hs]
    ·exact h
   ·have hp : ∀ (b : Act) (v : Value), (b.put o.dst v).tmps[t]? = b.tmps[t]? := fun b v => by
     cases ho : o.dst with
     | none => rfl
     | some d =>
      have hne : d ≠ t := fun e => hd (by rw [ho, e])
      simp [Act.put, Array.getElem?_setIfInBounds_ne hne]
    split <;> split <;> simp only [hp, h]
theorem putsG_defers : ∀ (l : List Oper) (k : Nat) (a : Act) (f : Nat → Bool) (g : Nat → Value), (putsG f g k l a).defers = a.defers
 | [], _, _, _, _ => rfl
 | o :: l, k, a, f, g => by
  simp only [putsG]
  rw [putsG_defers l]
  split
  ·exact put_defers _ _ _
  ·rfl
def got (o : Oper) (a : Act) : Value :=
 match o.dst with
 | some d => a.tmps.getD d undef
 | none => undef
theorem put_got (o : Oper) (a : Act) (u : Value) : a.put o.dst (got o (a.put o.dst u)) = a.put o.dst u := by
 unfold got
 cases hd : o.dst with
 | none => rfl
 | some d =>
  simp only [Act.put]
  rcases Nat.lt_or_ge d a.tmps.size with h | h
  ·simp [h]
  ·simp [Array.setIfInBounds_eq_of_size_le h]
theorem got_put_same (o : Oper) (a b : Act) (u : Value) (h : a.tmps.size = b.tmps.size) : got o (a.put o.dst u) = got o (b.put o.dst u) := by
 unfold got
 cases hd : o.dst with
 | none => rfl
 | some d =>
  simp only [Act.put]
  rcases Nat.lt_or_ge d a.tmps.size with h' | h'
  ·simp [h', h ▸ h']
  ·rw [Array.setIfInBounds_eq_of_size_le h', Array.setIfInBounds_eq_of_size_le (h ▸ h')]
   have h1 : ¬ d < a.tmps.size := Nat.not_lt.2 h'
   have h2 : ¬ d < b.tmps.size := by rw [← h]; exact h1
   simp only [Array.getD, dif_neg h1, dif_neg h2]
theorem putsG_size : ∀ (l : List Oper) (k : Nat) (a : Act) (f : Nat → Bool) (g : Nat → Value), (putsG f g k l a).tmps.size = a.tmps.size
 | [], _, _, _, _ => rfl
 | o :: l, k, a, f, g => by
  simp only [putsG]
  rw [putsG_size l]
  split
  ·simp only [Act.put]; cases o.dst <;> simp
  ·rfl
section
variable {P : Program} {md : Region.Mode}
structure GhostOk (md : Region.Mode) (l : List Oper) (deps : List (List Nat)) : Prop where
 sel : ∀ (j : Nat) (o : Oper) cs b, l[j]? = some o → o.op ≠ .select cs b
 edges : ∀ (j : Nat) (oj : Oper), l[j]? = some oj → ∀ e ∈ oj.after, Region.binds md e = true → e.on < j
 told : ∀ i, i < l.length → ∀ j ∈ deps.getD i [], j < i ∧ ∃ k, Region.waitsFor md l.toArray i k = true ∧ (j = k ∨ j ∈ deps.getD k [])
 looks : ∀ (i j : Nat) (oi oj : Oper), l[i]? = some oi → l[j]? = some oj → ∀ d, oj.dst = some d → d ∈ oi.looksAt l.toArray → j ∈ deps.getD i []
 dsts : ∀ (i j : Nat) (oi oj : Oper), l[i]? = some oi → l[j]? = some oj → j ≠ i → ∀ d, oi.dst = some d → oj.dst ≠ some d
def ghostOne (md : Region.Mode) (l : List Oper) (deps : List (List Nat)) (i : Nat) (oi : Oper) : Bool :=
 (oi.after.all fun e => !Region.binds md e || decide (e.on < i)) &&
 ((deps.getD i []).all fun j => decide (j < i) && ((List.range l.length).any fun k => Region.waitsFor md l.toArray i k && (j == k || (deps.getD k []).contains j))) &&
 ((List.range l.length).all fun j => match l[j]? with
  | none => true
  | some oj => match oj.dst with
   | none => true
   | some d => (!(oi.looksAt l.toArray).contains d || (deps.getD i []).contains j) && (j == i || oi.dst != some d))
def ghostB (md : Region.Mode) (l : List Oper) (deps : List (List Nat)) : Bool :=
 Region.noSelect l.toArray &&
 ((List.range l.length).all fun i => match l[i]? with
  | none => true
  | some oi => ghostOne md l deps i oi)
theorem ghostOk {md : Region.Mode} {l : List Oper} {deps : List (List Nat)} (h : ghostB md l deps = true) : GhostOk md l deps := by
 unfold ghostB at h
 rw [Bool.and_eq_true] at h
 obtain ⟨h1, h2⟩ := h
 have key : ∀ i oi, l[i]? = some oi → ghostOne md l deps i oi = true := fun i oi hi => by
  have := List.all_eq_true.1 h2 i (List.mem_range.2 (List.getElem?_eq_some_iff.1 hi).1)
  simpa only [hi] using this
 have key1 : ∀ (i : Nat) (oi : Oper), l[i]? = some oi → (oi.after.all fun e => !Region.binds md e || decide (e.on < i)) = true := fun i oi hi => by
  have := key i oi hi
  unfold ghostOne at this
  rw [Bool.and_eq_true, Bool.and_eq_true] at this
  exact this.1.1
 have key2 : ∀ (i : Nat) (oi : Oper), l[i]? = some oi → ((deps.getD i []).all fun j => decide (j < i) && ((List.range l.length).any fun k => Region.waitsFor md l.toArray i k && (j == k || (deps.getD k []).contains j))) = true := fun i oi hi => by
  have := key i oi hi
  unfold ghostOne at this
  rw [Bool.and_eq_true, Bool.and_eq_true] at this
  exact this.1.2
 have key3 : ∀ (i : Nat) (oi : Oper) (j : Nat) (oj : Oper) (d : Tmp), l[i]? = some oi → l[j]? = some oj → oj.dst = some d → ((oi.looksAt l.toArray).contains d = true → (deps.getD i []).contains j = true) ∧ (j ≠ i → oi.dst ≠ some d) := fun i oi j oj d hi hj hd => by
  have := key i oi hi
  unfold ghostOne at this
  rw [Bool.and_eq_true] at this
  have := List.all_eq_true.1 this.2 j (List.mem_range.2 (List.getElem?_eq_some_iff.1 hj).1)
  simp only [hj, hd] at this
  rw [Bool.and_eq_true, Bool.or_eq_true, Bool.or_eq_true, Bool.not_eq_true', beq_iff_eq, bne_iff_ne] at this
  refine ⟨fun h => ?_, fun hne => ?_⟩
  ·rcases this.1 with h' | h'
   ·rw [h] at h'; cases h'
   ·exact h'
  ·rcases this.2 with h' | h'
   ·exact absurd h' hne
   ·exact h'
 refine ⟨fun j o cs b hj => Region.noSelect_spec h1 j o cs b (by simpa using hj), fun j oj hj e he hb => ?_, fun i hi j hj => ?_, fun i j oi oj hi hj d hd hin => ?_, fun i j oi oj hi hj hne d hd hd' => (key3 i oi j oj d hi hj hd').2 hne hd⟩
 ·have := Array.all_eq_true_iff_forall_mem.1 (key1 j oj hj) e he
  rw [hb] at this
  simpa using this
 ·have := List.all_eq_true.1 (key2 i l[i] (by simp [hi])) j hj
  rw [Bool.and_eq_true, decide_eq_true_eq] at this
  obtain ⟨k, _, hk⟩ := List.any_eq_true.1 this.2
  rw [Bool.and_eq_true, Bool.or_eq_true, beq_iff_eq, List.contains_iff_mem] at hk
  exact ⟨this.1, k, hk.1, hk.2⟩
 ·exact List.contains_iff_mem.1 ((key3 i oi j oj d hi hj hd).1 (List.contains_iff_mem.2 hin))
def onceC (A : Act) (o : Oper) (R : Value → World → Prop) : Exit → Act → World → Prop := calmPost fun _ a' w' => a'.defers = A.defers ∧ R (got o a') w'
def GW (P : Program) (ops : Array Oper) (c : List (Option Value)) (deps : List (List Nat)) (U : (Nat → Bool) → (Nat → Value) → World → Prop) (Q : Exit → Act → World → Prop) (f : Nat → Bool) (g : Nat → Value) (w : World) : Nat → List Oper → Act → Prop
 | i, [], A => (∀ j, j < i → f j = true) → Q .normal A w
 | i, o :: l, A => match c.getD i none with
  | some v => ((∀ j ∈ deps.getD i [], f j = true) → f i = false → wpList P ops (onceC A o fun u w' => u = v ∧ Below w.heap.size w w') [o] A w) ∧ GW P ops c deps U Q f g w (i + 1) l (A.put o.dst v)
  | none => ((∀ j ∈ deps.getD i [], f j = true) → f i = false → wpList P ops (onceC A o fun u w' => U (upd f i true) (upd g i u) w') [o] A w) ∧ GW P ops c deps U Q f g w (i + 1) l (A.put o.dst (g i))
variable {ops : Array Oper} {c : List (Option Value)} {deps : List (List Nat)} {U : (Nat → Bool) → (Nat → Value) → World → Prop} {Q : Exit → Act → World → Prop} {f : Nat → Bool} {g : Nat → Value} {w : World}
theorem GW.nil {i : Nat} {A : Act} (h : (∀ j, j < i → f j = true) → Q .normal A w) : GW P ops c deps U Q f g w i [] A := h
theorem GW.known {i : Nat} {o : Oper} {l : List Oper} {A : Act} (v : Value) (hc : c.getD i none = some v) (h1 : (∀ j ∈ deps.getD i [], f j = true) → f i = false → wpList P ops (onceC A o fun u w' => u = v ∧ Below w.heap.size w w') [o] A w)
  (h2 : GW P ops c deps U Q f g w (i + 1) l (A.put o.dst v)) : GW P ops c deps U Q f g w i (o :: l) A := by
 unfold GW; rw [hc]; exact ⟨h1, h2⟩
theorem GW.open {i : Nat} {o : Oper} {l : List Oper} {A : Act} (hc : c.getD i none = none) (h1 : (∀ j ∈ deps.getD i [], f j = true) → f i = false → wpList P ops (onceC A o fun u w' => U (upd f i true) (upd g i u) w') [o] A w)
  (h2 : GW P ops c deps U Q f g w (i + 1) l (A.put o.dst (g i))) : GW P ops c deps U Q f g w i (o :: l) A := by
 unfold GW; rw [hc]; exact ⟨h1, h2⟩
def knownG (c : List (Option Value)) (g : Nat → Value) (j : Nat) : Value := (c.getD j none).getD (g j)
theorem GW.at {a0 : Act} {l : List Oper} (hd : ∀ (i j : Nat) (oi oj : Oper), l[i]? = some oi → l[j]? = some oj → j ≠ i → ∀ d, oi.dst = some d → oj.dst ≠ some d) :
  ∀ (t : List Oper) (k : Nat), (∀ j, t[j]? = l[k + j]?) → k + t.length = l.length → GW P ops c deps U Q f g w k t (putsG (fun j => decide (j < k)) (knownG c g) 0 l a0) →
  (∀ i o, k ≤ i → l[i]? = some o → (∀ j ∈ deps.getD i [], f j = true) → f i = false →
   wpList P ops (onceC (putsG (fun j => decide (j < i)) (knownG c g) 0 l a0) o fun u w' => match c.getD i none with | some v => u = v ∧ Below w.heap.size w w' | none => U (upd f i true) (upd g i u) w') [o] (putsG (fun j => decide (j < i)) (knownG c g) 0 l a0) w) ∧
  ((∀ j, j < l.length → f j = true) → Q .normal (putsG (fun j => decide (j < l.length)) (knownG c g) 0 l a0) w)
 | [], k, hl, hk, h => by
  simp only [List.length_nil, Nat.add_zero] at hk
  subst hk
  refine ⟨fun i o hi ho => ?_, h⟩
  rw [List.getElem?_eq_none hi] at ho
  cases ho
 | o :: t, k, hl, hk, h => by
  have h0 : l[k]? = some o := by simpa using (hl 0).symm
  have step : ∀ u, knownG c g k = u → (putsG (fun j => decide (j < k)) (knownG c g) 0 l a0).put o.dst u = putsG (fun j => decide (j < k + 1)) (knownG c g) 0 l a0 := fun u hu => by
   have := putsG_fire l 0 a0 k o u (fun j => decide (j < k)) (knownG c g) h0 (by simp) (fun j oj hj hne => hd k j o oj h0 hj hne)
   rw [Nat.zero_add] at this
   rw [← this]
   refine putsG_congr l 0 a0 _ _ _ _ (fun j _ _ => ⟨?_, fun _ => ?_⟩)
   ·by_cases hj : j = k
    ·subst hj; rw [upd_self]; simp
    ·rw [upd_ne _ _ hj]; exact decide_eq_decide.2 (by omega)
   ·by_cases hj : j = k
    ·subst hj; rw [upd_self, hu]
    ·rw [upd_ne _ _ hj]
  unfold GW at h
  have hl' : ∀ j, t[j]? = l[k + 1 + j]? := fun j => by
   have := hl (j + 1)
   simpa [Nat.add_assoc, Nat.add_comm 1 j] using this
  have hk' : k + 1 + t.length = l.length := by simp only [List.length_cons] at hk; omega
  cases hc : c.getD k none with
  | some v =>
   rw [hc] at h
   simp only [] at h
   rw [step v (by unfold knownG; rw [hc]; rfl)] at h
   obtain ⟨h1, h2⟩ := h
   obtain ⟨r1, r2⟩ := GW.at hd t (k + 1) hl' hk' h2
   refine ⟨fun i oi hi ho => ?_, r2⟩
   rcases Nat.eq_or_lt_of_le hi with rfl | hlt
   ·have : oi = o := Option.some.inj (ho.symm.trans h0)
    subst this
    rw [hc]
    exact h1
   ·exact r1 i oi hlt ho
  | none =>
   rw [hc] at h
   simp only [] at h
   rw [step (g k) (by unfold knownG; rw [hc]; rfl)] at h
   obtain ⟨h1, h2⟩ := h
   obtain ⟨r1, r2⟩ := GW.at hd t (k + 1) hl' hk' h2
   refine ⟨fun i oi hi ho => ?_, r2⟩
   rcases Nat.eq_or_lt_of_le hi with rfl | hlt
   ·have : oi = o := Option.some.inj (ho.symm.trans h0)
    subst this
    rw [hc]
    exact h1
   ·exact r1 i oi hlt ho
theorem wanted_same (o : Oper) (a a' : Act) (h : ∀ t ∈ o.looksAt ops, a.tmps[t]? = a'.tmps[t]?) : Region.wanted o (yielded ops a.tmps) = Region.wanted o (yielded ops a'.tmps) := by
 unfold Region.wanted
 cases hg : o.guard with
 | none => rfl
 | some gw =>
  obtain ⟨q, want⟩ := gw
  have hy : yielded ops a.tmps q = yielded ops a'.tmps q := by
   unfold yielded
   cases ht : (ops[q]?).bind (·.dst) with
   | none => rfl
   | some t =>
    simp only [Option.bind_some]
    rw [h t (by simp [Oper.looksAt, hg, ht])]
  simp only [hy]
theorem exec_same (o : Oper) (hs : ∀ cs b, o.op ≠ .select cs b) (a a' : Act) (h : ∀ t ∈ o.looksAt ops, a.tmps[t]? = a'.tmps[t]?) : execOp a.eval o = execOp a'.eval o :=
 execOp_congr o hs fun x hx => by
  cases x with
  | tmp t =>
   have := h t (List.mem_append_left _ (List.mem_filterMap.2 ⟨.tmp t, by simpa using hx, rfl⟩))
   simp only [Act.eval, Array.getD_eq_getD_getElem?, this]
  | _ => rfl
variable {F : Fence} {m : Nat}
structure Held (md : Region.Mode) (l : List Oper) (c : List (Option Value)) (deps : List (List Nat)) (U : (Nat → Bool) → (Nat → Value) → World → Prop) (a0 : Act) (listed : Array Bool) (g : Nat → Value) (a : Act) (w : World) : Prop where
 closed : Closed md l.toArray listed
 act : a = putsG (fun j => listed.getD j false) g 0 l a0
 vals : ∀ j v, listed.getD j false = true → c.getD j none = some v → g j = v
 down : ∀ k, listed.getD k false = true → ∀ j ∈ deps.getD k [], listed.getD j false = true
 world : U (fun j => listed.getD j false) g w
theorem exists_ready' {l : List Oper} (hedges : ∀ (j : Nat) (oj : Oper), l[j]? = some oj → ∀ e ∈ oj.after, Region.binds md e = true → e.on < j) {listed : Array Bool} (hc : Closed md l.toArray listed) : ∀ i, listed.getD i true = false → ∃ j, j ∈ Region.ready md l.toArray listed := by
 intro i
 induction i using Nat.strongRecOn with
 | _ i ih =>
  intro hi
  by_cases h : ∃ oi, l.toArray[i]? = some oi ∧ ∃ e ∈ oi.after, Region.binds md e = true ∧ listed.getD e.on false = false
  ·obtain ⟨oi, hoi, e, he, hb, hf⟩ := h
   have hlt := hedges i oi (by simpa using hoi) e he hb
   have hil : i < listed.size := by
    rw [hc.1]; exact (Array.getElem?_eq_some_iff.1 hoi).1
   exact ih e.on hlt (getD_in (by omega) hf)
  ·refine ⟨i, mem_ready.2 ⟨hi, ?_⟩⟩
   have hil : i < l.toArray.size := by
    rw [← hc.1]
    rcases Nat.lt_or_ge i listed.size with h' | h'
    ·exact h'
    ·simp [Array.getElem?_eq_none h'] at hi
   refine ⟨l.toArray[i], by simp [], fun e he hb => ?_⟩
   cases hl : listed.getD e.on false with
   | true => rfl
   | false => exact absurd ⟨l.toArray[i], by simp [], e, he, hb, hl⟩ h
theorem ghost_main (hF : Free F) {l : List Oper} {a0 : Act} (ok : GhostOk md l deps) (hnd : ∀ o ∈ l, ∀ q, o.op ≠ .defer q)
  (hg : ∀ f g w w', U f g w → Below w.heap.size w w' → U f g w')
  (hi : ∀ f f' g g' w, (∀ j, c.getD j none = none → f j = f' j ∧ g j = g' j) → U f g w → U f' g' w)
  (hw : ∀ f g w, U f g w → (∀ k, f k = true → ∀ j ∈ deps.getD k [], f j = true) → GW P l.toArray c deps U Q f g w 0 l a0) :
  ∀ (fuel : Nat) (V : List Nat) (listed : Array Bool) (g : Nat → Value) (a : Act) (w : World), V.Nodup → (∀ i, i ∈ V ↔ listed.getD i true = false) → V.length = fuel → Held md l c deps U a0 listed g a w →
   wpAnyIn F m P md l.toArray Q fuel listed a w := by
 intro fuel
 induction fuel with
 | zero =>
  intro V listed g a w hV hVm hVl H
  have hnil : V = [] := List.eq_nil_of_length_eq_zero hVl
  subst hnil
  have hall : ∀ i, listed.getD i true = true := fun i => by
   cases hi : listed.getD i true with
   | true => rfl
   | false => have := (hVm i).2 hi; cases this
  have hallf : ∀ i, i < l.length → listed.getD i false = true := fun i hil => by
   cases hi : listed.getD i false with
   | true => rfl
   | false => have := getD_in (by rw [H.closed.1]; simpa using hil) hi; rw [hall] at this; cases this
  refine ⟨?_, ?_⟩
  ·apply List.eq_nil_iff_forall_not_mem.2
   intro j hj
   have := (mem_ready.1 hj).1
   rw [hall] at this; cases this
  ·have h0 : putsG (fun j => decide (j < 0)) (knownG c g) 0 l a0 = a0 := by
    rw [putsG_congr l 0 a0 (fun j => decide (j < 0)) (fun _ => false) (knownG c g) g (fun j _ _ => ⟨by simp, fun h => by simp at h⟩)]
    have : ∀ (t : List Oper) k, putsG (fun _ => false) g k t a0 = a0 := by
     intro t
     induction t with
     | nil => intro k; rfl
     | cons o t ih => intro k; simp only [putsG, Bool.false_eq_true, if_false]; exact ih _
    exact this l 0
   have hGW := hw _ _ _ H.world H.down
   rw [← h0] at hGW
   have := (GW.at ok.dsts l 0 (fun j => by simp) (by simp) (by rw [h0] at hGW ⊢; exact hGW)).2 hallf
   rw [H.act]
   rw [putsG_congr l 0 a0 (fun j => listed.getD j false) (fun j => decide (j < l.length)) g (knownG c g) (fun j _ hj => ⟨by rw [hallf j (by omega)]; simp; omega, fun hf => by
    unfold knownG
    cases hc : c.getD j none with
    | none => rfl
    | some v => rw [H.vals j v hf hc]; rfl⟩)]
   exact this
 | succ fuel ih =>
  intro V listed g a w hV hVm hVl H
  refine ⟨fun h0 => ?_, fun i hir => ?_⟩
  ·obtain ⟨j, hj⟩ : ∃ j, j ∈ V := by
    cases V with
    | nil => cases hVl
    | cons x r => exact ⟨x, by simp⟩
   obtain ⟨k, hk⟩ := exists_ready' ok.edges H.closed j ((hVm j).1 hj)
   rw [h0] at hk; cases hk
  ·obtain ⟨hun, oi, hoi, hall⟩ := mem_ready.1 hir
   have hoi' : l[i]? = some oi := by simpa using hoi
   have hilt : i < l.length := (List.getElem?_eq_some_iff.1 hoi').1
   have hiV : i ∈ V := (hVm i).2 hun
   have hV' : (V.erase i).Nodup := hV.erase i
   have hVm' : ∀ j, j ∈ V.erase i ↔ (listed.setIfInBounds i true).getD j true = false := fun j => by
    by_cases hji : j = i
    ·subst hji
     rw [getD_set_true']
     simp [hV.not_mem_erase]
    ·rw [List.mem_erase_of_ne hji, hVm j, getD_set_ne true (Ne.symm hji)]
   have hVl' : (V.erase i).length = fuel := by rw [List.length_erase_of_mem hiV, hVl]; rfl
   have hc' := H.closed.set hir
   have hom : oi ∈ l := List.mem_of_getElem? hoi'
   have hfi : listed.getD i false = false := getD_both hun
   have hdown : ∀ j ∈ deps.getD i [], listed.getD j false = true := fun j hj => by
    obtain ⟨_, k, hk, hjk⟩ := ok.told i hilt j hj
    have hlk := ready_waits hir hk
    rcases hjk with rfl | hjk
    ·exact hlk
    ·exact H.down k hlk j hjk
   have hflag : (fun j => (listed.setIfInBounds i true).getD j false) = upd (fun j => listed.getD j false) i true := by
    funext j
    by_cases hji : j = i
    ·subst hji
     rw [upd_self]
     have : j < listed.size := by rw [H.closed.1]; simpa using hilt
     simp [this]
    ·rw [upd_ne _ _ hji, getD_set_ne false (Ne.symm hji)]
   -- the frame as the walk has it
   let A := putsG (fun j => decide (j < i)) (knownG c g) 0 l a0
   have hA : A = putsG (fun j => decide (j < i)) (knownG c g) 0 l a0 := rfl
   have h0 : putsG (fun j => decide (j < 0)) (knownG c g) 0 l a0 = a0 := by
    rw [putsG_congr l 0 a0 (fun j => decide (j < 0)) (fun _ => false) (knownG c g) g (fun j _ _ => ⟨by simp, fun h => by simp at h⟩)]
    have : ∀ (t : List Oper) k, putsG (fun _ => false) g k t a0 = a0 := by
     intro t
     induction t with
     | nil => intro k; rfl
     | cons o t ih => intro k; simp only [putsG, Bool.false_eq_true, if_false]; exact ih _
    exact this l 0
   have hGW := hw _ _ _ H.world H.down
   have hW := (GW.at (a0 := a0) ok.dsts l 0 (fun j => by simp) (by simp) (by rw [h0]; exact hGW)).1 i oi (Nat.zero_le _) hoi' hdown hfi
   rw [← hA] at hW
   have hsz : A.tmps.size = a.tmps.size := by rw [hA, H.act, putsG_size, putsG_size]
   have htm : ∀ t ∈ oi.looksAt l.toArray, a.tmps[t]? = A.tmps[t]? := fun t ht => by
    rw [hA, H.act]
    refine putsG_agree l 0 a0 a0 _ _ _ _ t rfl rfl (fun j oj hj hd => ?_)
    have hjd := ok.looks i j oi oj hoi' hj t hd ht
    have hlj := hdown j hjd
    have hji := (ok.told i hilt j hjd).1
    rw [Nat.zero_add]
    refine ⟨by show listed.getD j false = decide (j < i); rw [hlj, decide_eq_true hji], fun _ => ?_⟩
    unfold knownG
    cases hc : c.getD j none with
    | none => rfl
    | some v => rw [H.vals j v hlj hc]; rfl
   have hex : execOp a.eval oi = execOp A.eval oi := exec_same oi (fun cs b => ok.sel i oi cs b hoi') a A htm
   have hwn : Region.wanted oi (yielded l.toArray a.tmps) = Region.wanted oi (yielded l.toArray A.tmps) := wanted_same oi a A htm
   have hadA : A.defers = a.defers := by rw [hA, H.act, putsG_defers, putsG_defers]
   -- what comes behind
   have next : ∀ (ds : List Deferred) (v : Value) (w' : World), onceC A oi (fun u w' => match c.getD i none with | some v => u = v ∧ Below w.heap.size w w' | none => U (upd (fun j => listed.getD j false) i true) (upd g i u) w') .normal ((Act.deferring A ds).put oi.dst v) w' →
     wpAnyIn F m P md l.toArray Q fuel (listed.setIfInBounds i true) ((Act.deferring a ds).put oi.dst v) w' := fun ds v w' hnx => by
    obtain ⟨hds, hR⟩ := hnx
    rw [put_defers] at hds
    have hds' : ds = a.defers := by rw [← hadA]; exact hds
    subst hds'
    have hg' : got oi ((Act.deferring A a.defers).put oi.dst v) = got oi (a.put oi.dst v) := got_put_same oi _ _ v hsz
    rw [hg'] at hR
    rw [deferring_self, ← put_got]
    refine ih (V.erase i) _ (upd g i (got oi (a.put oi.dst v))) _ w' hV' hVm' hVl' ⟨hc', ?_, ?_, ?_, ?_⟩
    ·rw [hflag, H.act]
     have := putsG_fire l 0 a0 i oi (got oi (a.put oi.dst v)) (fun j => listed.getD j false) g hoi' (by rw [Nat.zero_add]; exact hfi) (fun j oj hj hne => ok.dsts i j oi oj hoi' hj hne)
     rw [Nat.zero_add] at this
     rw [← H.act]
     rw [this, ← H.act]
    ·intro j v' hj hcj
     by_cases hji : j = i
     ·subst hji
      rw [upd_self]
      rw [hcj] at hR
      exact hR.1
     ·rw [getD_set_ne false (Ne.symm hji)] at hj
      rw [upd_ne _ _ hji]
      exact H.vals j v' hj hcj
    ·intro k hk j hj
     by_cases hki : k = i
     ·subst hki; exact getD_set_true (hdown j hj)
     ·rw [getD_set_ne false (Ne.symm hki)] at hk
      exact getD_set_true (H.down k hk j hj)
    ·rw [hflag]
     cases hc : c.getD i none with
     | none => rw [hc] at hR; exact hR
     | some v' =>
      rw [hc] at hR
      refine hi _ _ _ _ _ (fun j hj => ?_) (hg _ _ _ _ H.world hR.2)
      have hji : j ≠ i := fun e => by rw [e, hc] at hj; cases hj
      exact ⟨(upd_ne (fun j => listed.getD j false) true hji).symm, (upd_ne g _ hji).symm⟩
   unfold wpOpIn
   simp only [hoi]
   simp only [wpList] at hW
   rw [← hwn] at hW
   by_cases hwt : Region.wanted oi (yielded l.toArray a.tmps) = true
   ·rw [if_pos hwt] at hW
    rw [if_pos hwt]
    refine ⟨fun f _ => hF.fn f, ?_⟩
    rw [Oper.semAt_eq _ _ _ (hnd oi hom)]
    rcases hW with hW | ⟨_, hl⟩
    ·unfold Oper.wp at hW
     rw [← hex] at hW
     exact uponIn_frame hF hadA (fun ds v w' h => next ds v w' h) hW
    ·exact absurd hl (not_letsOut _)
   ·rw [if_neg hwt] at hW
    rw [if_neg hwt]
    refine ⟨fun f _ => hF.fn f, ?_⟩
    have := next A.defers undef w (by rw [deferring_self]; exact hW)
    rw [hadA, deferring_self] at this
    exact this
theorem wpIn_region_ghost (hF : Free F) (c : List (Option Value)) (deps : List (List Nat)) (U : (Nat → Bool) → (Nat → Value) → World → Prop) {id : Nat} {a : Act} {w : World} {l : List Oper} (hm : P.follows .mixedOrders = true) (hnd : noDefer l = true) (hB : ghostB .any l deps = true)
  (hg : ∀ f g w w', U f g w → Below w.heap.size w w' → U f g w')
  (hi : ∀ f f' g g' w, (∀ j, c.getD j none = none → f j = f' j ∧ g j = g' j) → U f g w → U f' g' w)
  (h0 : U (fun _ => false) (fun _ => undef) { w with drawn := w.drawn + 1 })
  (hw : ∀ f g w, U f g w → (∀ k, f k = true → ∀ j ∈ deps.getD k [], f j = true) → GW P l.toArray c deps U Q f g w 0 l a) : (Code.region id l.toArray true).wpIn F m P Q a w := by
 have ok := ghostOk hB
 refine wpIn_region_any hm ?_
 have hf0 : (fun j => (Array.replicate l.toArray.size false).getD j false) = fun _ => false := by funext j; exact getD_replicate_false _ _
 refine ghost_main hF ok (noDefer_spec hnd) hg hi hw l.toArray.size (List.range l.toArray.size) _ (fun _ => undef) a _ List.nodup_range (fun i => ?_) (by simp) ⟨⟨by simp, fun j oj _ hl => ?_⟩, ?_, fun j v hj => ?_, fun k hk => ?_, ?_⟩
 ·rw [List.mem_range]
  rcases Nat.lt_or_ge i l.toArray.size with h | h
  ·exact ⟨fun _ => getD_in (by simpa using h) (getD_replicate_false _ _), fun _ => h⟩
  ·refine ⟨fun h' => absurd h' (by omega), fun h' => ?_⟩
   simp only [List.size_toArray] at h
   simp [Array.getD, show ¬ i < l.length by omega] at h'
 ·rw [getD_replicate_false] at hl; cases hl
 ·rw [hf0]
  have : ∀ (t : List Oper) k, putsG (fun _ => false) (fun _ => undef) k t a = a := by
   intro t
   induction t with
   | nil => intro k; rfl
   | cons o t ih => intro k; simp only [putsG, Bool.false_eq_true, if_false]; exact ih _
  exact (this l 0).symm
 ·rw [getD_replicate_false] at hj; cases hj
 ·rw [getD_replicate_false] at hk; cases hk
 ·rw [hf0]; exact h0
theorem wp_region_ghost (c : List (Option Value)) (deps : List (List Nat)) (U : (Nat → Bool) → (Nat → Value) → World → Prop) {id : Nat} {a : Act} {w : World} {l : List Oper} (hm : P.follows .mixedOrders = true) (hnd : noDefer l = true) (hB : ghostB .any l deps = true)
  (hg : ∀ f g w w', U f g w → Below w.heap.size w w' → U f g w')
  (hi : ∀ f f' g g' w, (∀ j, c.getD j none = none → f j = f' j ∧ g j = g' j) → U f g w → U f' g' w)
  (h0 : U (fun _ => false) (fun _ => undef) { w with drawn := w.drawn + 1 })
  (hw : ∀ f g w, U f g w → (∀ k, f k = true → ∀ j ∈ deps.getD k [], f j = true) → GW P l.toArray c deps U Q f g w 0 l a) : (Code.region id l.toArray true).wp P Q a w :=
 wpIn_wide.1 (wpIn_region_ghost (m := 0) free_wide c deps U hm hnd hB hg hi h0 hw)
end
end
section
open Go Go.RowKit Go.Shelf
attribute [local go_sem] Oper.semAt_some
def upto {α : Type} (f : Nat → α) (k : Nat) : List α := (List.range k).map f
theorem upto_succ {α : Type} (f : Nat → α) (k : Nat) : upto f (k + 1) = upto f k ++ [f k] := by simp [upto, List.range_succ]
theorem upto_length {α : Type} (f : Nat → α) (k : Nat) : (upto f k).length = k := by simp [upto]
def KeepsAt (L : List Nat) (W W' : World) : Prop := ∀ b, b ∈ L → W'.heap[b]? = W.heap[b]?
theorem KeepsAt.refl (L : List Nat) (W : World) : KeepsAt L W W := fun _ _ => rfl
theorem KeepsAt.trans {L : List Nat} {A B C : World} (h : KeepsAt L A B) (k : KeepsAt L B C) : KeepsAt L A C := fun b hb => (k b hb).trans (h b hb)
theorem KeepsAt.cell {L : List Nat} {W W' : World} (h : KeepsAt L W W') {p : Addr} (hp : p.block ∈ L) : W'.cell? p = W.cell? p := World.cell?_of_block (w := W) (h p.block hp)
theorem KeepsAt.setCell {L : List Nat} {W W' : World} (h : KeepsAt L W W') {p : Addr} (hp : p.block ∉ L) (v : Value) : KeepsAt L W (W'.setCell p v) := fun b hb => (Below.heap_setCell _ _ _ _ (fun e => hp (e ▸ hb))).trans (h b hb)
theorem KeepsAt.below {L : List Nat} {W A B : World} {n : Nat} (h : KeepsAt L W A) (hb : Below n A B) (hL : ∀ b, b ∈ L → b < n) : KeepsAt L W B := fun b hm => (hb.block b (hL b hm)).trans (h b hm)
theorem KeepsAt.b {L : List Nat} {w : World} (hL : ∀ b, b ∈ L → b < w.heap.size) (W : World) (l : Nat) (o o' : Obj) (hl : w.heap.size ≤ l) (_ : W.heap[l]? = some o) (_ : o.isCells = false) (_ : o.isWalk = false) : KeepsAt L W (W.putObj l o') :=
 fun b hb => World.putObj_heap_other (by have := hL b hb; omega)
theorem parts1_in {α : Type} (f : Nat → α) (encs : α → Array Value) (F : Fence) (n : Nat) (hF : F.fn 64) (hro : F.round = none) (hn : 1 ≤ n) (l Bs b : Nat) (z : Nat → Int)
  (henc : ∀ k, k < 4 → encs (f k) = #[.int .i64 (k : Int), .int .u64 (z k)]) (J Jx : List α → World → Prop)
  (hY : ∀ pre x W, J pre W → pre.length < 4 → YieldAt F (n - 1) Try.prog l (encs x) W fun e W' =>
   (e = .returned (.bool true) ∧ J (pre ++ [x]) W' ∧ KeepsAt [b, Bs] W W') ∨ (e = .returned (.bool false) ∧ Jx (pre ++ [x]) W'))
  (W : World) (hBs : W.cell? ⟨Bs, 0, none⟩ = some (.pointer (some ⟨b, 0, none⟩))) (hc : ∀ j, j < 4 → W.cell? ⟨b, j, none⟩ = some (.int .u64 (z j))) (h0 : J [] W) :
  CallsIn F n Try.prog 64 #[.func (.yield l) #[] #[], .pointer (some ⟨Bs, 0, none⟩)] W fun e W' => (∃ v, e = .returned v) ∧
   ((∃ ys, ys = upto f 4 ∧ J ys W') ∨ (∃ pre, (∃ k, k ≤ 4 ∧ pre = upto f k) ∧ Jx pre W')) := by
 refine callsIn_of_wp Try.func64 rfl hF ?_ hro
 simp only [Try.ntmps64, List.size_toArray, List.length_cons, List.length_nil, Nat.reduceAdd, Nat.reduceSub, Array.replicate_succ, Array.replicate_zero, List.push_toArray, List.append_toArray, List.nil_append, List.cons_append]
 gi_wp2
 gi_loopw [4] (fun i wr => ∃ k : Nat, k ≤ 4 ∧ i = .int .i64 k ∧ J (upto f k) wr ∧ KeepsAt [b, Bs] W wr)
  (fun i _ => 4 - (intOf i).toNat)
 case atStart => exact ⟨0, Nat.zero_le _, rfl, h0, KeepsAt.refl _ _⟩
 case round =>
  obtain ⟨k, hk, rfl, hJs, hnx⟩ := hrel
  by_cases hlt : k < 4
  ·obtain ⟨fn, tmps, assign, body, hy, hR⟩ := hY _ (f k) wr hJs (by rw [upto_length]; exact hlt)
   rw [henc k hlt] at hy
   have hcx : wr.cell? ⟨b, k, none⟩ = some (.int .u64 (z k)) := (hnx.cell (p := ⟨b, k, none⟩) (by simp)).trans (hc k hlt)
   have hbx : wr.cell? ⟨Bs, 0, none⟩ = some (.pointer (some ⟨b, 0, none⟩)) := (hnx.cell (p := ⟨Bs, 0, none⟩) (by simp)).trans hBs
   clear hc hBs henc
   gi_wp2
   refine hR.mono ?_
   rintro e W3 (⟨rfl, hJ3, hk3⟩ | ⟨rfl, hJx3⟩)
   ·gi_wp2
    go_roundw
    case rel => exact ⟨k + 1, by omega, by simp, by rw [upto_succ]; exact hJ3, hnx.trans hk3⟩
    case measure => simp [intOf]; omega
   ·gi_wp2
    refine bodyPost_ret (results_none rfl _ _ _) rfl ?_
    exact ⟨⟨_, rfl⟩, .inr ⟨_, ⟨k + 1, by omega, (upto_succ _ _).symm⟩, hJx3⟩⟩
  ·obtain rfl : k = 4 := by omega
   gi_wp2
   go_end0
   exact ⟨⟨_, rfl⟩, .inl ⟨_, rfl, hJs⟩⟩
def place (k : Nat) : Fin 4 := if h : k < 4 then ⟨k, h⟩ else 0
theorem place_val {k : Nat} (h : k < 4) : (place k).val = k := by simp [place, h]
theorem parts_stops (F : Fence) (n : Nat) (hF : F.fn 64) (hro : F.round = none) (hn : 1 ≤ n) (Bs b : Nat) (z : Nat → Int) (w : World) (hBs : Bs < w.heap.size) (hb : b < w.heap.size)
  (hcB : w.cell? ⟨Bs, 0, none⟩ = some (.pointer (some ⟨b, 0, none⟩))) (hc : ∀ j, j < 4 → w.cell? ⟨b, j, none⟩ = some (.int .u64 (z j))) :
  SeqStopsK F n Try.prog 64 #[.pointer (some ⟨Bs, 0, none⟩)] (fun x : Fin 4 => #[Value.int .i64 (x.val : Int), Value.int .u64 (z x.val)]) (KeepsAt [b, Bs]) (fun ys => ys = [0, 1, 2, 3])
   (fun pre => ∃ k, k ≤ 4 ∧ pre = upto place k) 4 w := fun l J Jx W hW _ _ hY h0 => by
 exact parts1_in place _ F n hF hro hn l Bs b z (fun k hk => by simp only [place_val hk]) J Jx hY W ((hW.cell (p := ⟨Bs, 0, none⟩) hBs).trans hcB) (fun j hj => (hW.cell (p := ⟨b, j, none⟩) hb).trans (hc j hj)) h0
def Arr4 (W : World) (B : Nat) (t : TypeId) (m : Nat → Int) : Prop := W.heap[B]? = some (.cells #[.int .u64 (m 0), .int .u64 (m 1), .int .u64 (m 2), .int .u64 (m 3)] t (0, 0))
theorem Arr4.lt {W : World} {B : Nat} {t : TypeId} {m : Nat → Int} (h : Arr4 W B t m) : B < W.heap.size := (Array.getElem?_eq_some_iff.1 h).1
theorem Arr4.cell {W : World} {B : Nat} {t : TypeId} {m : Nat → Int} (h : Arr4 W B t m) {j : Nat} (hj : j < 4) : W.cell? ⟨B, j, none⟩ = some (.int .u64 (m j)) := by
 simp only [World.cell?, show W.heap[B]? = _ from h]
 match j, hj with
 | 0, _ => rfl
 | 1, _ => rfl
 | 2, _ => rfl
 | 3, _ => rfl
theorem Arr4.frozen {W : World} {B : Nat} {t : TypeId} {m : Nat → Int} (h : Arr4 W B t m) (j : Nat) : W.frozen? ⟨B, j, none⟩ = false := by
 simp [World.frozen?, show W.heap[B]? = _ from h]
theorem Arr4.kept {W W' : World} {row : Option Nat} {B : Nat} {t : TypeId} {m : Nat → Int} (h : Arr4 W B t m) (hg : W.grownBy W' row) (hne : some B ≠ row) : Arr4 W' B t m := (hg.block B h.lt hne).trans h
theorem Arr4.below {W W' : World} {B n : Nat} {t : TypeId} {m : Nat → Int} (h : Arr4 W B t m) (hb : Below n W W') (hlt : B < n) : Arr4 W' B t m := (hb.block B hlt).trans h
theorem Arr4.alloc {W : World} {B : Nat} {t : TypeId} {m : Nat → Int} (h : Arr4 W B t m) (o : Obj) : Arr4 (W.alloc o) B t m := h.kept (World.grownBy_alloc W o none) (by simp)
theorem Arr4.drew {W : World} {B : Nat} {t : TypeId} {m : Nat → Int} (h : Arr4 W B t m) : Arr4 W.drew B t m := h
theorem Arr4.new (W : World) (t : TypeId) (a b c d : Int) : Arr4 (W.alloc (.cells #[.int .u64 a, .int .u64 b, .int .u64 c, .int .u64 d] t)) W.heap.size t (fun j => if j = 0 then a else if j = 1 then b else if j = 2 then c else d) := World.alloc_heap_new W _
theorem Arr4.set {W : World} {B : Nat} {t : TypeId} {m : Nat → Int} (h : Arr4 W B t m) {k : Nat} (hk : k < 4) (v : Int) : Arr4 (W.setCell ⟨B, k, none⟩ (.int .u64 v)) B t (fun j => if j = k then v else m j) := by
 obtain ⟨hlt, he⟩ := Array.getElem?_eq_some_iff.1 h
 show (W.heap.modify B _)[B]? = _
 rw [Array.getElem?_eq_getElem (by rw [Array.size_modify]; exact hlt), Array.getElem_modify_self, he]
 match k, hk with
 | 0, _ => rfl
 | 1, _ => rfl
 | 2, _ => rfl
 | 3, _ => rfl
theorem Arr4.other {W : World} {B : Nat} {t : TypeId} {m : Nat → Int} (h : Arr4 W B t m) {p : Addr} (hne : B ≠ p.block) (v : Value) : Arr4 (W.setCell p v) B t m :=
 (Below.heap_setCell W p v B hne).trans h
theorem Arr4.own {β : Type} (B : Nat) (t : TypeId) (f : β → Nat → Int) : Own (fun s W => Arr4 W B t (f s)) := fun s X Y row hs hg hrow =>
 hs.kept hg (fun e' => by obtain ⟨o, ho, hc⟩ := hrow B e'.symm; rw [show X.heap[B]? = _ from hs] at ho; cases ho; cases hc)
theorem Boxed.below {W W' : World} {B n : Nat} {t : TypeId} {v : Value} (h : Boxed W B t v) (hb : Below n W W') (hlt : B < n) : Boxed W' B t v := (hb.block B hlt).trans h
theorem Boxed.away {W : World} {B : Nat} {t : TypeId} {v : Value} (h : Boxed W B t v) {p : Addr} (hne : B ≠ p.block) (u : Value) : Boxed (W.setCell p u) B t v :=
 (Below.heap_setCell W p u B hne).trans h
theorem parts_any (p : Option Addr) (w : World) :
  Calls Try.prog 58 #[.pointer p] w fun e w' => e = .returned (.func (.func 64) #[] #[.pointer (some ⟨w.heap.size, 0, none⟩)]) ∧ w' = w.alloc (.cells #[.pointer p] 86) := by
 go_enter Try.func58, Try.ntmps58
 go_wp2
 go_ret
 exact ⟨rfl, rfl⟩
end
section
open Go Go.RowKit Go.Shelf
attribute [local go_sem] Oper.semAt_some Grows wide_fn
def leftOf (nx : Nat → Int → Int) (l0 : Int) (pre : List (Fin 4)) : Int := pre.foldl (fun l k => nx k.val l) l0
theorem leftOf_snoc (nx : Nat → Int → Int) (l0 : Int) (pre : List (Fin 4)) (k : Fin 4) : leftOf nx l0 (pre ++ [k]) = nx k.val (leftOf nx l0 pre) := by simp [leftOf]
def madeOf (o nx : Nat → Int → Int) : Int → List (Fin 4) → (Nat → Int) → Nat → Int
 | _, [], m => m
 | l, k :: r, m => madeOf o nx (nx k.val l) r (fun j => if j = k.val then o k.val l else m j)
theorem madeOf_snoc (o nx : Nat → Int → Int) (k : Fin 4) : ∀ (pre : List (Fin 4)) (l0 : Int) (m : Nat → Int), madeOf o nx l0 (pre ++ [k]) m = fun j => if j = k.val then o k.val (leftOf nx l0 pre) else madeOf o nx l0 pre m j
 | [], l0, m => rfl
 | x :: r, l0, m => by
  show madeOf o nx (nx x.val l0) (r ++ [k]) _ = _
  rw [madeOf_snoc o nx k r]
  rfl
def JoinIAt (H : Nat) (zA zB : Nat → Int) (fv : Value) (m : Nat → Int) (l : Int) (W : World) : Prop :=
 Arr4 W H 29 zA ∧ Arr4 W (H + 1) 29 zB ∧ Boxed W (H + 1 + 1) 3 (.int .i64 l) ∧ Boxed W (H + 1 + 1 + 1) 70 fv ∧
  Arr4 W (H + 1 + 1 + 1 + 1) 29 (fun _ => 0) ∧ Arr4 W (H + 1 + 1 + 1 + 1 + 1) 29 m ∧ Boxed W (H + 1 + 1 + 1 + 1 + 1 + 1) 86 (.pointer (some ⟨H, 0, none⟩))
theorem JoinIAt.own {β : Type} (H : Nat) (zA zB : Nat → Int) (fv : Value) (m : β → Nat → Int) (l : β → Int) : Own (fun s W => JoinIAt H zA zB fv (m s) (l s) W) := fun s X Y row hs hg hr =>
 ⟨Arr4.own H _ (fun _ : β => zA) s X Y row hs.1 hg hr, Arr4.own (H + 1) _ (fun _ : β => zB) s X Y row hs.2.1 hg hr, boxed_own (H + 1 + 1) _ (fun s : β => Value.int .i64 (l s)) s X Y row hs.2.2.1 hg hr, boxed_own (H + 1 + 1 + 1) _ (fun _ : β => fv) s X Y row hs.2.2.2.1 hg hr,
  Arr4.own (H + 1 + 1 + 1 + 1) _ (fun _ : β => fun _ => 0) s X Y row hs.2.2.2.2.1 hg hr, Arr4.own (H + 1 + 1 + 1 + 1 + 1) _ m s X Y row hs.2.2.2.2.2.1 hg hr, boxed_own (H + 1 + 1 + 1 + 1 + 1 + 1) _ (fun _ : β => _) s X Y row hs.2.2.2.2.2.2 hg hr⟩
theorem join_int (zA zB : Nat → Int) (o nx : Nat → Int → Int) (l0 : Int) (Lb : Int → Prop) (hL0 : Lb l0) (hLn : ∀ k, k < 4 → ∀ l, Lb l → Lb (nx k l))
  (hrun : ∀ k, k < 4 → ∀ l, Lb l → Ret Try.prog 43 #[.int .u64 (zA k), .int .u64 (zB k), .int .i64 l] (.tuple #[.int .u64 (o k l), .int .i64 (nx k l)]))
  (w : World) :
  Calls Try.prog 42 #[.agg #[.int .u64 (zA 0), .int .u64 (zA 1), .int .u64 (zA 2), .int .u64 (zA 3)], .agg #[.int .u64 (zB 0), .int .u64 (zB 1), .int .u64 (zB 2), .int .u64 (zB 3)], .int .i64 l0, .func (.func 43) #[] #[]] w fun e w' =>
   e = .returned (.tuple #[.agg #[.int .u64 (madeOf o nx l0 [0, 1, 2, 3] (fun _ => 0) 0), .int .u64 (madeOf o nx l0 [0, 1, 2, 3] (fun _ => 0) 1), .int .u64 (madeOf o nx l0 [0, 1, 2, 3] (fun _ => 0) 2), .int .u64 (madeOf o nx l0 [0, 1, 2, 3] (fun _ => 0) 3)], .int .i64 (leftOf nx l0 [0, 1, 2, 3])]) ∧ Below w.heap.size w w' := by
 have h1 : 1 ≤ 3 := by omega
 refine (callsIn_wide (n := 3)).1 ?_
 refine callsIn_of_wp_marks Try.func42 rfl trivial ?_ rfl
 simp only [Try.ntmps42, List.size_toArray, List.length_cons, List.length_nil, Nat.reduceAdd, Nat.reduceSub, Array.replicate_succ, Array.replicate_zero, List.push_toArray, List.append_toArray, List.nil_append, List.cons_append]
 gi_wp2_with (gi_at_call 58; refine (callsIn_free free_wide (parts_any _ _)).mono ?_; rintro e w' ⟨rfl, rfl⟩)
 obtain ⟨W0, hW0⟩ : ∃ W0, (((((((w.alloc (.cells #[.int .u64 (zA 0), .int .u64 (zA 1), .int .u64 (zA 2), .int .u64 (zA 3)] 29)).alloc (.cells #[.int .u64 (zB 0), .int .u64 (zB 1), .int .u64 (zB 2), .int .u64 (zB 3)] 29)).alloc (.cells #[.int .i64 l0] 3)).alloc (.cells #[.func (.func 43) #[] #[]] 70)).alloc (.cells #[.int .u64 0, .int .u64 0, .int .u64 0, .int .u64 0] 29)).alloc (.cells #[.int .u64 0, .int .u64 0, .int .u64 0, .int .u64 0] 29)).alloc (.cells #[.pointer (some ⟨w.heap.size, 0, none⟩)] 86)) = W0 := ⟨_, rfl⟩
 have hB0 : Below w.heap.size w W0 := by
  rw [← hW0]; exact (((((((Below.refl _ w).alloc (by first | exact Nat.le_refl _ | (simp; done) | (simp; omega)) _).alloc (by first | exact Nat.le_refl _ | (simp; done) | (simp; omega)) _).alloc (by first | exact Nat.le_refl _ | (simp; done) | (simp; omega)) _).alloc (by first | exact Nat.le_refl _ | (simp; done) | (simp; omega)) _).alloc (by first | exact Nat.le_refl _ | (simp; done) | (simp; omega)) _).alloc (by first | exact Nat.le_refl _ | (simp; done) | (simp; omega)) _).alloc (by first | exact Nat.le_refl _ | (simp; done) | (simp; omega)) _
 have hsz : W0.heap.size = w.heap.size + 7 := by rw [← hW0]; simp
 have hJ0 : JoinIAt w.heap.size zA zB (.func (.func 43) #[] #[]) (fun _ => 0) l0 W0 := by
  rw [← hW0]
  refine ⟨?_, ?_, ?_, ?_, ?_, ?_, ?_⟩
  ·have h := World.alloc_heap_new w (.cells #[.int .u64 (zA 0), .int .u64 (zA 1), .int .u64 (zA 2), .int .u64 (zA 3)] 29)
   exact (((((((show Arr4 _ _ _ zA from h).alloc _).alloc _).alloc _).alloc _).alloc _).alloc _)
  ·have h := World.alloc_heap_new (w.alloc (.cells #[.int .u64 (zA 0), .int .u64 (zA 1), .int .u64 (zA 2), .int .u64 (zA 3)] 29)) (.cells #[.int .u64 (zB 0), .int .u64 (zB 1), .int .u64 (zB 2), .int .u64 (zB 3)] 29)
   rw [World.size_alloc] at h
   exact ((((((show Arr4 _ _ _ zB from h).alloc _).alloc _).alloc _).alloc _).alloc _)
  ·have h := Boxed.new ((w.alloc (.cells #[.int .u64 (zA 0), .int .u64 (zA 1), .int .u64 (zA 2), .int .u64 (zA 3)] 29)).alloc (.cells #[.int .u64 (zB 0), .int .u64 (zB 1), .int .u64 (zB 2), .int .u64 (zB 3)] 29)) 3 (.int .i64 l0)
   rw [World.size_alloc, World.size_alloc] at h
   exact ((((h.alloc _).alloc _).alloc _).alloc _)
  ·have h := Boxed.new (((w.alloc (.cells #[.int .u64 (zA 0), .int .u64 (zA 1), .int .u64 (zA 2), .int .u64 (zA 3)] 29)).alloc (.cells #[.int .u64 (zB 0), .int .u64 (zB 1), .int .u64 (zB 2), .int .u64 (zB 3)] 29)).alloc (.cells #[.int .i64 l0] 3)) 70 (.func (.func 43) #[] #[])
   rw [World.size_alloc, World.size_alloc, World.size_alloc] at h
   exact (((h.alloc _).alloc _).alloc _)
  ·have h := World.alloc_heap_new ((((w.alloc (.cells #[.int .u64 (zA 0), .int .u64 (zA 1), .int .u64 (zA 2), .int .u64 (zA 3)] 29)).alloc (.cells #[.int .u64 (zB 0), .int .u64 (zB 1), .int .u64 (zB 2), .int .u64 (zB 3)] 29)).alloc (.cells #[.int .i64 l0] 3)).alloc (.cells #[.func (.func 43) #[] #[]] 70)) (.cells #[.int .u64 0, .int .u64 0, .int .u64 0, .int .u64 0] 29)
   rw [World.size_alloc, World.size_alloc, World.size_alloc, World.size_alloc] at h
   exact (((show Arr4 _ _ _ (fun _ => 0) from h).alloc _).alloc _)
  ·have h := World.alloc_heap_new (((((w.alloc (.cells #[.int .u64 (zA 0), .int .u64 (zA 1), .int .u64 (zA 2), .int .u64 (zA 3)] 29)).alloc (.cells #[.int .u64 (zB 0), .int .u64 (zB 1), .int .u64 (zB 2), .int .u64 (zB 3)] 29)).alloc (.cells #[.int .i64 l0] 3)).alloc (.cells #[.func (.func 43) #[] #[]] 70)).alloc (.cells #[.int .u64 0, .int .u64 0, .int .u64 0, .int .u64 0] 29)) (.cells #[.int .u64 0, .int .u64 0, .int .u64 0, .int .u64 0] 29)
   rw [World.size_alloc, World.size_alloc, World.size_alloc, World.size_alloc, World.size_alloc] at h
   exact ((show Arr4 _ _ _ (fun _ => 0) from h).alloc _)
  ·have h := Boxed.new ((((((w.alloc (.cells #[.int .u64 (zA 0), .int .u64 (zA 1), .int .u64 (zA 2), .int .u64 (zA 3)] 29)).alloc (.cells #[.int .u64 (zB 0), .int .u64 (zB 1), .int .u64 (zB 2), .int .u64 (zB 3)] 29)).alloc (.cells #[.int .i64 l0] 3)).alloc (.cells #[.func (.func 43) #[] #[]] 70)).alloc (.cells #[.int .u64 0, .int .u64 0, .int .u64 0, .int .u64 0] 29)).alloc (.cells #[.int .u64 0, .int .u64 0, .int .u64 0, .int .u64 0] 29)) 86 (.pointer (some ⟨w.heap.size, 0, none⟩))
   rw [World.size_alloc, World.size_alloc, World.size_alloc, World.size_alloc, World.size_alloc, World.size_alloc] at h
   exact h
 rw [hW0]
 clear hW0
 have hcP := Boxed.cell hJ0.2.2.2.2.2.2
 have hA' : ∀ j, j < 4 → W0.cell? ⟨w.heap.size, j, none⟩ = some (.int .u64 (zA j)) := fun j hj => hJ0.1.cell hj
 refine wpIn_rangeFunc_ownG rfl h1 (gf := 64) (lb := #[.pointer (some ⟨w.heap.size + 1 + 1 + 1 + 1 + 1 + 1, 0, none⟩)]) rfl trivial (enters_of Try.func64 (by kernel_rfl) rfl)
  (parts_stops Fence.wide _ trivial rfl (by omega) _ (w.heap.size) zA W0 (by omega) (by omega) hcP hA') KeepsAt.trans (KeepsAt.b (by simp; omega)) (Below.refl _ _) (fun _ => rfl)
  (fun pre W => (JoinIAt w.heap.size zA zB (.func (.func 43) #[] #[]) (madeOf o nx l0 pre (fun _ => 0)) (leftOf nx l0 pre) W ∧ Lb (leftOf nx l0 pre)) ∧ Below w.heap.size w W)
  (fun _ _ _ => False)
  ?hI
  (fun _ _ _ _ _ hs _ _ => hs)
  ⟨⟨hJ0, hL0⟩, hB0⟩
  (fun x => { tmps := #[.agg #[.int .u64 (zA 0), .int .u64 (zA 1), .int .u64 (zA 2), .int .u64 (zA 3)], .agg #[.int .u64 (zB 0), .int .u64 (zB 1), .int .u64 (zB 2), .int .u64 (zB 3)], .int .i64 l0, .func (.func 43) #[] #[], .pointer (some ⟨w.heap.size, 0, none⟩), .pointer (some ⟨w.heap.size + 1, 0, none⟩), .pointer (some ⟨w.heap.size + 1 + 1, 0, none⟩), .pointer (some ⟨w.heap.size + 1 + 1 + 1, 0, none⟩), .pointer (some ⟨w.heap.size + 1 + 1 + 1 + 1, 0, none⟩), .int .i64 0, .pointer (some ⟨w.heap.size + 1 + 1 + 1 + 1 + 1, 0, none⟩), .int .i64 (x.val : Int), .int .u64 (zA x.val), .agg #[.int .u64 0, .int .u64 0, .int .u64 0, .int .u64 0], .func (.func 64) #[] #[.pointer (some ⟨w.heap.size + 1 + 1 + 1 + 1 + 1 + 1, 0, none⟩)], .int .i64 (x.val : Int), .int .u64 (zA x.val), undef, undef, undef, undef, undef, undef, undef, undef, undef, undef, undef, undef, undef, undef], defers := [] }) ?assign ?body ?done ?stop
 case hI => exact OwnFrom.and (OwnFrom.and (Own.from (JoinIAt.own _ _ _ _ _ _) _) (ownFrom_pure _ _)) (ownFrom_below (Nat.le_refl _) (by omega))
 case assign =>
  intro l x W K hK
  gi_wp2
  exact hK
 case body =>
  rintro l pre ⟨k, hk⟩ W ⟨⟨⟨bA, bB, b6, b7, b8, b10, bP⟩, hl⟩, hBw⟩ _
  have hmx : Try.prog.follows .mixedOrders = true := by kernel_rfl
  have c6 := b6.cell
  have c7 := b7.cell
  have cB := bB.cell hk
  have f6 := b6.frozen
  have f10 := b10.frozen k
  have c10 := b10.cell hk
  have hk0 : (0 : Int) ≤ (k : Int) := by omega
  have hk4 : (k : Int) < 4 := by omega
  have hr := hrun k hk _ hl
  clear hrun hA' hcP
  have hM := Lib.hid (madeOf_snoc o nx ⟨k, hk⟩ pre l0 (fun _ => 0))
  have hL := Lib.hid (leftOf_snoc nx l0 pre ⟨k, hk⟩)
  have hLb := hLn k hk _ hl
  generalize leftOf nx l0 pre = lx at *
  generalize madeOf o nx l0 pre (fun _ => 0) = mx at *
  have e6 : ∀ x : Ext W, x.w.cell? ⟨w.heap.size + 1 + 1, 0, none⟩ = some (.int .i64 lx) := fun x => (x.cell b6.lt).trans c6
  have e7 : ∀ x : Ext W, x.w.cell? ⟨w.heap.size + 1 + 1 + 1, 0, none⟩ = some (.func (.func 43) #[] #[]) := fun x => (x.cell b7.lt).trans c7
  have eB : ∀ x : Ext W, x.w.cell? ⟨w.heap.size + 1, k, none⟩ = some (.int .u64 (zB k)) := fun x => (x.cell (p := ⟨_, k, none⟩) bB.lt).trans cB
  have e10 : ∀ x : Ext W, x.w.cell? ⟨w.heap.size + 1 + 1 + 1 + 1 + 1, k, none⟩ = some (.int .u64 (mx k)) := fun x => (x.cell (p := ⟨_, k, none⟩) b10.lt).trans c10
  have g6 : ∀ x : Ext W, x.w.frozen? ⟨w.heap.size + 1 + 1, 0, none⟩ = false := fun x => (x.frozen b6.lt).trans f6
  have g10 : ∀ x : Ext W, x.w.frozen? ⟨w.heap.size + 1 + 1 + 1 + 1 + 1, k, none⟩ = false := fun x => (x.frozen (p := ⟨_, k, none⟩) b10.lt).trans f10
  clear c6 c7 cB c10 f6 f10
  gi_wp2
  refine wpIn_region_mix (C := Grows W) (free_round l) [some true, some true, some true, some true, some true, some true, some true, some true, some true, some true, some false, some true, none, none] hmx (by kernel_rfl) (by kernel_rfl) (grows_refl W) ?_
  simp only [headOf, tailOf]
  repeat (go_big_quiet_step (exact Ret.at hr _))
  refine wpQuiet_nil ?_
  rintro _ ⟨x, rfl⟩
  go_wp2
  rw [calmPost_normal]
  refine ⟨((x.keeps _).trans ((KeepsOthers.setCell _ _ _).from _)).trans ((KeepsOthers.setCell _ _ _).from _), ?_, ⟨⟨?_, by rw [hL.out]; exact hLb⟩, ?_⟩⟩
  ·exact (((KeepsAt.refl _ _).below x.below (fun b hb => by simp at hb; have := hBw.size; have := b10.lt; have := bP.lt; omega)).setCell (by simp; omega) _).setCell (by simp; omega) _
  ·rw [hM.out, hL.out]
   have F1 : ∀ {a b : Nat}, a ≠ b → a ≠ b := fun h => h
   exact ⟨Arr4.other (Arr4.other (Arr4.below bA x.below (Arr4.lt bA)) (by first | (simp; done) | (simp; omega)) _) (by first | (simp; done) | (simp; omega)) _, Arr4.other (Arr4.other (Arr4.below bB x.below (Arr4.lt bB)) (by first | (simp; done) | (simp; omega)) _) (by first | (simp; done) | (simp; omega)) _, Boxed.set _ (Boxed.away (Boxed.below b6 x.below (Boxed.lt b6)) (by first | (simp; done) | (simp; omega)) _), Boxed.away (Boxed.away (Boxed.below b7 x.below (Boxed.lt b7)) (by first | (simp; done) | (simp; omega)) _) (by first | (simp; done) | (simp; omega)) _,
    Arr4.other (Arr4.other (Arr4.below b8 x.below (Arr4.lt b8)) (by first | (simp; done) | (simp; omega)) _) (by first | (simp; done) | (simp; omega)) _, Arr4.other (Arr4.set (Arr4.below b10 x.below (Arr4.lt b10)) hk _) (by first | (simp; done) | (simp; omega)) _, Boxed.away (Boxed.away (Boxed.below bP x.below (Boxed.lt bP)) (by first | (simp; done) | (simp; omega)) _) (by first | (simp; done) | (simp; omega)) _⟩
  ·exact ((hBw.trans (x.below.mono hBw.size)).setCell (p := ⟨_, k, none⟩) (by simp; omega) _).setCell (p := ⟨_, 0, none⟩) (by simp; omega) _
 case done =>
  rintro D ys W hD rfl ⟨⟨⟨bA, bB, b6, b7, b8, b10, bP⟩, hl⟩, hBw⟩ hK
  gi_wp2
  have hmx : Try.prog.follows .mixedOrders = true := by kernel_rfl
  have c6 := b6.cell
  have c0 := b10.cell (j := 0) (by omega)
  have c1 := b10.cell (j := 1) (by omega)
  have c2 := b10.cell (j := 2) (by omega)
  have c3 := b10.cell (j := 3) (by omega)
  have d0 := b8.cell (j := 0) (by omega)
  have d1 := b8.cell (j := 1) (by omega)
  have d2 := b8.cell (j := 2) (by omega)
  have d3 := b8.cell (j := 3) (by omega)
  have f0 := b8.frozen 0
  have f1 := b8.frozen 1
  have f2 := b8.frozen 2
  have f3 := b8.frozen 3
  clear hrun hA' hcP hJ0 hB0 hL0 hLn hl bA bB
  have b8' : Arr4 ((((W.setCell ⟨w.heap.size + 1 + 1 + 1 + 1, 0, none⟩ (.int .u64 (madeOf o nx l0 [0, 1, 2, 3] (fun _ => 0) 0))).setCell ⟨w.heap.size + 1 + 1 + 1 + 1, 1, none⟩ (.int .u64 (madeOf o nx l0 [0, 1, 2, 3] (fun _ => 0) 1))).setCell ⟨w.heap.size + 1 + 1 + 1 + 1, 2, none⟩ (.int .u64 (madeOf o nx l0 [0, 1, 2, 3] (fun _ => 0) 2))).setCell ⟨w.heap.size + 1 + 1 + 1 + 1, 3, none⟩ (.int .u64 (madeOf o nx l0 [0, 1, 2, 3] (fun _ => 0) 3))) (w.heap.size + 1 + 1 + 1 + 1) 29 (madeOf o nx l0 [0, 1, 2, 3] (fun _ => 0)) := by
   have h := Arr4.set (Arr4.set (Arr4.set (Arr4.set b8 (k := 0) (by omega) (madeOf o nx l0 [0, 1, 2, 3] (fun _ => 0) 0)) (k := 1) (by omega) (madeOf o nx l0 [0, 1, 2, 3] (fun _ => 0) 1)) (k := 2) (by omega) (madeOf o nx l0 [0, 1, 2, 3] (fun _ => 0) 2)) (k := 3) (by omega) (madeOf o nx l0 [0, 1, 2, 3] (fun _ => 0) 3)
   exact h
  have HB8 := Lib.hid b8'
  clear b8'
  gi_region_o
  all_goals gi_wp2
  all_goals
   have hK' := (((((KeepsOthers.setCell W ⟨w.heap.size + 1 + 1 + 1 + 1, 0, none⟩ (.int .u64 (madeOf o nx l0 [0, 1, 2, 3] (fun _ => 0) 0))).trans (KeepsOthers.setCell _ ⟨w.heap.size + 1 + 1 + 1 + 1, 1, none⟩ (.int .u64 (madeOf o nx l0 [0, 1, 2, 3] (fun _ => 0) 1)))).trans (KeepsOthers.setCell _ ⟨w.heap.size + 1 + 1 + 1 + 1, 2, none⟩ (.int .u64 (madeOf o nx l0 [0, 1, 2, 3] (fun _ => 0) 2)))).trans (KeepsOthers.setCell _ ⟨w.heap.size + 1 + 1 + 1 + 1, 3, none⟩ (.int .u64 (madeOf o nx l0 [0, 1, 2, 3] (fun _ => 0) 3)))).trans (KeepsOthers.drew _)).same D _ hK rfl
   have b8 := HB8.out
   have hBf := ((((hBw.setCell (p := ⟨w.heap.size + 1 + 1 + 1 + 1, 0, none⟩) (by simp; omega) (.int .u64 (madeOf o nx l0 [0, 1, 2, 3] (fun _ => 0) 0))).setCell (p := ⟨w.heap.size + 1 + 1 + 1 + 1, 1, none⟩) (by simp; omega) (.int .u64 (madeOf o nx l0 [0, 1, 2, 3] (fun _ => 0) 1))).setCell (p := ⟨w.heap.size + 1 + 1 + 1 + 1, 2, none⟩) (by simp; omega) (.int .u64 (madeOf o nx l0 [0, 1, 2, 3] (fun _ => 0) 2))).setCell (p := ⟨w.heap.size + 1 + 1 + 1 + 1, 3, none⟩) (by simp; omega) (.int .u64 (madeOf o nx l0 [0, 1, 2, 3] (fun _ => 0) 3))).drew
   refine ⟨by simp, .inl ⟨_, _, rfl, run_takeDeferred hK', ?_⟩⟩
   have b9 := Arr4.kept (Arr4.drew b8) (grownBy_putObj' _ D (.deferred none)) (fun e => by cases e; have := (show _ = _ from Arr4.drew b8).symm.trans hK'; cases this)
   have e0 := b9.cell (j := 0) (by omega)
   have e1 := b9.cell (j := 1) (by omega)
   have e2 := b9.cell (j := 2) (by omega)
   have e3 := b9.cell (j := 3) (by omega)
   exact ⟨_, by simp [results, Try.f42, go_sem, e0, e1, e2, e3], rfl, hBf.trans (belowK_b (w := w) (Nat.le_refl _) _ D _ _ (by omega) hK' rfl rfl)⟩
 case stop =>
  rintro D c pre W _ _ h _
  exact h.elim
end
end Go.Proofs.Ytahjgllnfbejmaa
