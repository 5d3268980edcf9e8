/- Part. -/
import Derived.Test.YtnkhmgmganejmaaGreatDoorT02
set_option maxRecDepth 100000
set_option maxHeartbeats 16000000
namespace Go.Proofs.YtnkhmgmganejmaaGreatDoor
section
open Go Go.RowKit Go.BigFrame
def upd {α : Type} (f : Nat → α) (i : Nat) (u : α) : Nat → α := fun j => if j = i then u else f j
theorem upd_self {α : Type} (f : Nat → α) (i : Nat) (u : α) : upd f i u i = u := by simp [upd]
theorem upd_ne {α : Type} (f : Nat → α) {i j : Nat} (u : α) (h : j ≠ i) : upd f i u j = f j := by simp [upd, h]
def putsG (f : Nat → Bool) (g : Nat → Value) : Nat → List Oper → Act → Act
 | _, [], a => a
 | k, o :: l, a => putsG f g (k + 1) l (if f k = true then a.put o.dst (g k) else a)
theorem putsG_congr : ∀ (l : List Oper) (k : Nat) (a : Act) (f f' : Nat → Bool) (g g' : Nat → Value), (∀ j, k ≤ j → j < k + l.length → f j = f' j ∧ (f j = true → g j = g' j)) → putsG f g k l a = putsG f' g' k l a
 | [], _, _, _, _, _, _, _ => rfl
 | o :: l, k, a, f, f', g, g', h => by
  simp only [putsG]
  obtain ⟨h1, h2⟩ := h k (Nat.le_refl _) (by simp)
  have e : (if f k = true then a.put o.dst (g k) else a) = (if f' k = true then a.put o.dst (g' k) else a) := by
   rw [← h1]
   split
   ·rename_i ht; rw [h2 ht]
   ·rfl
  rw [e]
  exact putsG_congr l (k + 1) _ f f' g g' (fun j h3 h4 => h j (by omega) (by simp only [List.length_cons]; omega))
theorem putsG_put : ∀ (l : List Oper) (k : Nat) (a : Act) (d : Option Tmp) (u : Value) (f : Nat → Bool) (g : Nat → Value), (∀ o ∈ l, ∀ e, d = some e → o.dst ≠ some e) → putsG f g k l (a.put d u) = (putsG f g k l a).put d u
 | [], _, _, _, _, _, _, _ => rfl
 | o :: l, k, a, d, u, f, g, h => by
  simp only [putsG]
  have hr := fun b => putsG_put l (k + 1) b d u f g (fun o ho => h o (by simp [ho]))
  split
  ·rw [Act.put_comm a u (g k) (h o (by simp)), hr]
  ·rw [hr]
theorem putsG_fire : ∀ (l : List Oper) (k : Nat) (a : Act) (i : Nat) (o : Oper) (u : Value) (f : Nat → Bool) (g : Nat → Value), l[i]? = some o → f (k + i) = false →
  (∀ j oj, l[j]? = some oj → j ≠ i → ∀ e, o.dst = some e → oj.dst ≠ some e) → putsG (upd f (k + i) true) (upd g (k + i) u) k l a = (putsG f g k l a).put o.dst u
 | [], _, _, _, _, _, _, _, h, _, _ => by simp at h
 | p :: l, k, a, 0, o, u, f, g, h, hf, hd => by
  have hp : p = o := by simpa using h
  subst hp
  have hf' : f k = false := by simpa using hf
  simp only [putsG, Nat.add_zero, upd_self, if_true, hf', Bool.false_eq_true, if_false]
  rw [putsG_put l (k + 1) a p.dst u _ _ (fun q hq e he => by
   obtain ⟨j, hj⟩ := List.getElem?_of_mem hq
   exact hd (j + 1) q (by simpa using hj) (by omega) e he)]
  rw [putsG_congr l (k + 1) a (upd f k true) f (upd g k u) g (fun j h1 h2 => ⟨upd_ne _ _ (by omega), fun _ => upd_ne _ _ (by omega)⟩)]
 | p :: l, k, a, i + 1, o, u, f, g, h, hf, hd => by
  simp only [putsG]
  rw [upd_ne _ _ (show k ≠ k + (i + 1) by omega), upd_ne _ _ (show k ≠ k + (i + 1) by omega)]
  have e : k + (i + 1) = (k + 1) + i := by omega
  rw [e]
  exact putsG_fire l (k + 1) _ i o u f g (by simpa using h) (by rw [← e]; exact hf) (fun j oj hj hne e he => hd (j + 1) oj (by simpa using hj) (by omega) e he)
theorem putsG_agree : ∀ (l : List Oper) (k : Nat) (a a' : Act) (f f' : Nat → Bool) (g g' : Nat → Value) (t : Tmp), a.tmps.size = a'.tmps.size → a.tmps[t]? = a'.tmps[t]? →
  (∀ j oj, l[j]? = some oj → oj.dst = some t → f (k + j) = f' (k + j) ∧ (f (k + j) = true → g (k + j) = g' (k + j))) → (putsG f g k l a).tmps[t]? = (putsG f' g' k l a').tmps[t]?
 | [], _, _, _, _, _, _, _, _, _, h, _ => h
 | o :: l, k, a, a', f, f', g, g', t, hs, h, hj => by
  simp only [putsG]
  refine putsG_agree l (k + 1) _ _ f f' g g' t ?_ ?_ (fun j oj hl hd => by
   have := hj (j + 1) oj (by simpa using hl) hd
   rwa [show k + (j + 1) = k + 1 + j by omega] at this)
  ·have hz : ∀ (b : Act) (u : Value), (b.put o.dst u).tmps.size = b.tmps.size := fun b u => by
    cases o.dst <;> simp [Act.put]
   split <;> split <;> simp only [hz, hs]
  ·by_cases hd : o.dst = some t
   ·obtain ⟨h1, h2⟩ := hj 0 o rfl hd
    simp only [Nat.add_zero] at h1 h2
    rw [← h1]
    split
    ·rename_i hf
     rw [h2 hf]
     simp only [Act.put, hd]
     simp only [Array.getElem?_setIfInBounds_self, hs]
    ·exact h
   ·have hp : ∀ (b : Act) (v : Value), (b.put o.dst v).tmps[t]? = b.tmps[t]? := fun b v => by
     cases ho : o.dst with
     | none => rfl
     | some d =>
      have hne : d ≠ t := fun e => hd (by rw [ho, e])
      simp [Act.put, Array.getElem?_setIfInBounds_ne hne]
    split <;> split <;> simp only [hp, h]
theorem putsG_defers : ∀ (l : List Oper) (k : Nat) (a : Act) (f : Nat → Bool) (g : Nat → Value), (putsG f g k l a).defers = a.defers
 | [], _, _, _, _ => rfl
 | o :: l, k, a, f, g => by
  simp only [putsG]
  rw [putsG_defers l]
  split
  ·exact put_defers _ _ _
  ·rfl
def got (o : Oper) (a : Act) : Value :=
 match o.dst with
 | some d => a.tmps.getD d undef
 | none => undef
theorem put_got (o : Oper) (a : Act) (u : Value) : a.put o.dst (got o (a.put o.dst u)) = a.put o.dst u := by
 unfold got
 cases hd : o.dst with
 | none => rfl
 | some d =>
  simp only [Act.put]
  rcases Nat.lt_or_ge d a.tmps.size with h | h
  ·simp [h]
  ·simp [Array.setIfInBounds_eq_of_size_le h]
theorem got_put_same (o : Oper) (a b : Act) (u : Value) (h : a.tmps.size = b.tmps.size) : got o (a.put o.dst u) = got o (b.put o.dst u) := by
 unfold got
 cases hd : o.dst with
 | none => rfl
 | some d =>
  simp only [Act.put]
  rcases Nat.lt_or_ge d a.tmps.size with h' | h'
  ·simp [h', h ▸ h']
  ·rw [Array.setIfInBounds_eq_of_size_le h', Array.setIfInBounds_eq_of_size_le (h ▸ h')]
   have h1 : ¬ d < a.tmps.size := Nat.not_lt.2 h'
   have h2 : ¬ d < b.tmps.size := by rw [← h]; exact h1
   simp only [Array.getD, dif_neg h1, dif_neg h2]
theorem putsG_size : ∀ (l : List Oper) (k : Nat) (a : Act) (f : Nat → Bool) (g : Nat → Value), (putsG f g k l a).tmps.size = a.tmps.size
 | [], _, _, _, _ => rfl
 | o :: l, k, a, f, g => by
  simp only [putsG]
  rw [putsG_size l]
  split
  ·simp only [Act.put]; cases o.dst <;> simp
  ·rfl
section
variable {P : Program} {md : Region.Mode}
structure GhostOk (md : Region.Mode) (l : List Oper) (deps : List (List Nat)) : Prop where
 sel : ∀ (j : Nat) (o : Oper) cs b, l[j]? = some o → o.op ≠ .select cs b
 edges : ∀ (j : Nat) (oj : Oper), l[j]? = some oj → ∀ e ∈ oj.after, Region.binds md e = true → e.on < j
 told : ∀ i, i < l.length → ∀ j ∈ deps.getD i [], j < i ∧ ∃ k, Region.waitsFor md l.toArray i k = true ∧ (j = k ∨ j ∈ deps.getD k [])
 looks : ∀ (i j : Nat) (oi oj : Oper), l[i]? = some oi → l[j]? = some oj → ∀ d, oj.dst = some d → d ∈ oi.looksAt l.toArray → j ∈ deps.getD i []
 dsts : ∀ (i j : Nat) (oi oj : Oper), l[i]? = some oi → l[j]? = some oj → j ≠ i → ∀ d, oi.dst = some d → oj.dst ≠ some d
def ghostOne (md : Region.Mode) (l : List Oper) (deps : List (List Nat)) (i : Nat) (oi : Oper) : Bool :=
 (oi.after.all fun e => !Region.binds md e || decide (e.on < i)) &&
 ((deps.getD i []).all fun j => decide (j < i) && ((List.range l.length).any fun k => Region.waitsFor md l.toArray i k && (j == k || (deps.getD k []).contains j))) &&
 ((List.range l.length).all fun j => match l[j]? with
  | none => true
  | some oj => match oj.dst with
   | none => true
   | some d => (!(oi.looksAt l.toArray).contains d || (deps.getD i []).contains j) && (j == i || oi.dst != some d))
def ghostB (md : Region.Mode) (l : List Oper) (deps : List (List Nat)) : Bool :=
 Region.noSelect l.toArray &&
 ((List.range l.length).all fun i => match l[i]? with
  | none => true
  | some oi => ghostOne md l deps i oi)
theorem ghostOk {md : Region.Mode} {l : List Oper} {deps : List (List Nat)} (h : ghostB md l deps = true) : GhostOk md l deps := by
 unfold ghostB at h
 rw [Bool.and_eq_true] at h
 obtain ⟨h1, h2⟩ := h
 have key : ∀ i oi, l[i]? = some oi → ghostOne md l deps i oi = true := fun i oi hi => by
  have := List.all_eq_true.1 h2 i (List.mem_range.2 (List.getElem?_eq_some_iff.1 hi).1)
  simpa only [hi] using this
 have key1 : ∀ (i : Nat) (oi : Oper), l[i]? = some oi → (oi.after.all fun e => !Region.binds md e || decide (e.on < i)) = true := fun i oi hi => by
  have := key i oi hi
  unfold ghostOne at this
  rw [Bool.and_eq_true, Bool.and_eq_true] at this
  exact this.1.1
 have key2 : ∀ (i : Nat) (oi : Oper), l[i]? = some oi → ((deps.getD i []).all fun j => decide (j < i) && ((List.range l.length).any fun k => Region.waitsFor md l.toArray i k && (j == k || (deps.getD k []).contains j))) = true := fun i oi hi => by
  have := key i oi hi
  unfold ghostOne at this
  rw [Bool.and_eq_true, Bool.and_eq_true] at this
  exact this.1.2
 have key3 : ∀ (i : Nat) (oi : Oper) (j : Nat) (oj : Oper) (d : Tmp), l[i]? = some oi → l[j]? = some oj → oj.dst = some d → ((oi.looksAt l.toArray).contains d = true → (deps.getD i []).contains j = true) ∧ (j ≠ i → oi.dst ≠ some d) := fun i oi j oj d hi hj hd => by
  have := key i oi hi
  unfold ghostOne at this
  rw [Bool.and_eq_true] at this
  have := List.all_eq_true.1 this.2 j (List.mem_range.2 (List.getElem?_eq_some_iff.1 hj).1)
  simp only [hj, hd] at this
  rw [Bool.and_eq_true, Bool.or_eq_true, Bool.or_eq_true, Bool.not_eq_true', beq_iff_eq, bne_iff_ne] at this
  refine ⟨fun h => ?_, fun hne => ?_⟩
  ·rcases this.1 with h' | h'
   ·rw [h] at h'; cases h'
   ·exact h'
  ·rcases this.2 with h' | h'
   ·exact absurd h' hne
   ·exact h'
 refine ⟨fun j o cs b hj => Region.noSelect_spec h1 j o cs b (by simpa using hj), fun j oj hj e he hb => ?_, fun i hi j hj => ?_, fun i j oi oj hi hj d hd hin => ?_, fun i j oi oj hi hj hne d hd hd' => (key3 i oi j oj d hi hj hd').2 hne hd⟩
 ·have := Array.all_eq_true_iff_forall_mem.1 (key1 j oj hj) e he
  rw [hb] at this
  simpa using this
 ·have := List.all_eq_true.1 (key2 i l[i] (by simp [hi])) j hj
  rw [Bool.and_eq_true, decide_eq_true_eq] at this
  obtain ⟨k, _, hk⟩ := List.any_eq_true.1 this.2
  rw [Bool.and_eq_true, Bool.or_eq_true, beq_iff_eq, List.contains_iff_mem] at hk
  exact ⟨this.1, k, hk.1, hk.2⟩
 ·exact List.contains_iff_mem.1 ((key3 i oi j oj d hi hj hd).1 (List.contains_iff_mem.2 hin))
def onceC (A : Act) (o : Oper) (R : Value → World → Prop) : Exit → Act → World → Prop := calmPost fun _ a' w' => a'.defers = A.defers ∧ R (got o a') w'
def GW (P : Program) (ops : Array Oper) (c : List (Option Value)) (deps : List (List Nat)) (U : (Nat → Bool) → (Nat → Value) → World → Prop) (Q : Exit → Act → World → Prop) (f : Nat → Bool) (g : Nat → Value) (w : World) : Nat → List Oper → Act → Prop
 | i, [], A => (∀ j, j < i → f j = true) → Q .normal A w
 | i, o :: l, A => match c.getD i none with
  | some v => ((∀ j ∈ deps.getD i [], f j = true) → f i = false → wpList P ops (onceC A o fun u w' => u = v ∧ Below w.heap.size w w') [o] A w) ∧ GW P ops c deps U Q f g w (i + 1) l (A.put o.dst v)
  | none => ((∀ j ∈ deps.getD i [], f j = true) → f i = false → wpList P ops (onceC A o fun u w' => U (upd f i true) (upd g i u) w') [o] A w) ∧ GW P ops c deps U Q f g w (i + 1) l (A.put o.dst (g i))
variable {ops : Array Oper} {c : List (Option Value)} {deps : List (List Nat)} {U : (Nat → Bool) → (Nat → Value) → World → Prop} {Q : Exit → Act → World → Prop} {f : Nat → Bool} {g : Nat → Value} {w : World}
theorem GW.nil {i : Nat} {A : Act} (h : (∀ j, j < i → f j = true) → Q .normal A w) : GW P ops c deps U Q f g w i [] A := h
theorem GW.known {i : Nat} {o : Oper} {l : List Oper} {A : Act} (v : Value) (hc : c.getD i none = some v) (h1 : (∀ j ∈ deps.getD i [], f j = true) → f i = false → wpList P ops (onceC A o fun u w' => u = v ∧ Below w.heap.size w w') [o] A w)
  (h2 : GW P ops c deps U Q f g w (i + 1) l (A.put o.dst v)) : GW P ops c deps U Q f g w i (o :: l) A := by
 unfold GW; rw [hc]; exact ⟨h1, h2⟩
theorem GW.open {i : Nat} {o : Oper} {l : List Oper} {A : Act} (hc : c.getD i none = none) (h1 : (∀ j ∈ deps.getD i [], f j = true) → f i = false → wpList P ops (onceC A o fun u w' => U (upd f i true) (upd g i u) w') [o] A w)
  (h2 : GW P ops c deps U Q f g w (i + 1) l (A.put o.dst (g i))) : GW P ops c deps U Q f g w i (o :: l) A := by
 unfold GW; rw [hc]; exact ⟨h1, h2⟩
def knownG (c : List (Option Value)) (g : Nat → Value) (j : Nat) : Value := (c.getD j none).getD (g j)
theorem GW.at {a0 : Act} {l : List Oper} (hd : ∀ (i j : Nat) (oi oj : Oper), l[i]? = some oi → l[j]? = some oj → j ≠ i → ∀ d, oi.dst = some d → oj.dst ≠ some d) :
  ∀ (t : List Oper) (k : Nat), (∀ j, t[j]? = l[k + j]?) → k + t.length = l.length → GW P ops c deps U Q f g w k t (putsG (fun j => decide (j < k)) (knownG c g) 0 l a0) →
  (∀ i o, k ≤ i → l[i]? = some o → (∀ j ∈ deps.getD i [], f j = true) → f i = false →
   wpList P ops (onceC (putsG (fun j => decide (j < i)) (knownG c g) 0 l a0) o fun u w' => match c.getD i none with | some v => u = v ∧ Below w.heap.size w w' | none => U (upd f i true) (upd g i u) w') [o] (putsG (fun j => decide (j < i)) (knownG c g) 0 l a0) w) ∧
  ((∀ j, j < l.length → f j = true) → Q .normal (putsG (fun j => decide (j < l.length)) (knownG c g) 0 l a0) w)
 | [], k, hl, hk, h => by
  simp only [List.length_nil, Nat.add_zero] at hk
  subst hk
  refine ⟨fun i o hi ho => ?_, h⟩
  rw [List.getElem?_eq_none hi] at ho
  cases ho
 | o :: t, k, hl, hk, h => by
  have h0 : l[k]? = some o := by simpa using (hl 0).symm
  have step : ∀ u, knownG c g k = u → (putsG (fun j => decide (j < k)) (knownG c g) 0 l a0).put o.dst u = putsG (fun j => decide (j < k + 1)) (knownG c g) 0 l a0 := fun u hu => by
   have := putsG_fire l 0 a0 k o u (fun j => decide (j < k)) (knownG c g) h0 (by simp) (fun j oj hj hne => hd k j o oj h0 hj hne)
   rw [Nat.zero_add] at this
   rw [← this]
   refine putsG_congr l 0 a0 _ _ _ _ (fun j _ _ => ⟨?_, fun _ => ?_⟩)
   ·by_cases hj : j = k
    ·subst hj; rw [upd_self]; simp
    ·rw [upd_ne _ _ hj]; exact decide_eq_decide.2 (by omega)
   ·by_cases hj : j = k
    ·subst hj; rw [upd_self, hu]
    ·rw [upd_ne _ _ hj]
  unfold GW at h
  have hl' : ∀ j, t[j]? = l[k + 1 + j]? := fun j => by
   have := hl (j + 1)
   simpa [Nat.add_assoc, Nat.add_comm 1 j] using this
  have hk' : k + 1 + t.length = l.length := by simp only [List.length_cons] at hk; omega
  cases hc : c.getD k none with
  | some v =>
   rw [hc] at h
   simp only [] at h
   rw [step v (by unfold knownG; rw [hc]; rfl)] at h
   obtain ⟨h1, h2⟩ := h
   obtain ⟨r1, r2⟩ := GW.at hd t (k + 1) hl' hk' h2
   refine ⟨fun i oi hi ho => ?_, r2⟩
   rcases Nat.eq_or_lt_of_le hi with rfl | hlt
   ·have : oi = o := Option.some.inj (ho.symm.trans h0)
    subst this
    rw [hc]
    exact h1
   ·exact r1 i oi hlt ho
  | none =>
   rw [hc] at h
   simp only [] at h
   rw [step (g k) (by unfold knownG; rw [hc]; rfl)] at h
   obtain ⟨h1, h2⟩ := h
   obtain ⟨r1, r2⟩ := GW.at hd t (k + 1) hl' hk' h2
   refine ⟨fun i oi hi ho => ?_, r2⟩
   rcases Nat.eq_or_lt_of_le hi with rfl | hlt
   ·have : oi = o := Option.some.inj (ho.symm.trans h0)
    subst this
    rw [hc]
    exact h1
   ·exact r1 i oi hlt ho
theorem wanted_same (o : Oper) (a a' : Act) (h : ∀ t ∈ o.looksAt ops, a.tmps[t]? = a'.tmps[t]?) : Region.wanted o (yielded ops a.tmps) = Region.wanted o (yielded ops a'.tmps) := by
 unfold Region.wanted
 cases hg : o.guard with
 | none => rfl
 | some gw =>
  obtain ⟨q, want⟩ := gw
  have hy : yielded ops a.tmps q = yielded ops a'.tmps q := by
   unfold yielded
   cases ht : (ops[q]?).bind (·.dst) with
   | none => rfl
   | some t =>
    simp only [Option.bind_some]
    rw [h t (by simp [Oper.looksAt, hg, ht])]
  simp only [hy]
theorem exec_same (o : Oper) (hs : ∀ cs b, o.op ≠ .select cs b) (a a' : Act) (h : ∀ t ∈ o.looksAt ops, a.tmps[t]? = a'.tmps[t]?) : execOp a.eval o = execOp a'.eval o :=
 execOp_congr o hs fun x hx => by
  cases x with
  | tmp t =>
   have := h t (List.mem_append_left _ (List.mem_filterMap.2 ⟨.tmp t, by simpa using hx, rfl⟩))
   simp only [Act.eval, Array.getD_eq_getD_getElem?, this]
  | _ => rfl
variable {F : Fence} {m : Nat}
structure Held (md : Region.Mode) (l : List Oper) (c : List (Option Value)) (deps : List (List Nat)) (U : (Nat → Bool) → (Nat → Value) → World → Prop) (a0 : Act) (listed : Array Bool) (g : Nat → Value) (a : Act) (w : World) : Prop where
 closed : Closed md l.toArray listed
 act : a = putsG (fun j => listed.getD j false) g 0 l a0
 vals : ∀ j v, listed.getD j false = true → c.getD j none = some v → g j = v
 down : ∀ k, listed.getD k false = true → ∀ j ∈ deps.getD k [], listed.getD j false = true
 world : U (fun j => listed.getD j false) g w
theorem exists_ready' {l : List Oper} (hedges : ∀ (j : Nat) (oj : Oper), l[j]? = some oj → ∀ e ∈ oj.after, Region.binds md e = true → e.on < j) {listed : Array Bool} (hc : Closed md l.toArray listed) : ∀ i, listed.getD i true = false → ∃ j, j ∈ Region.ready md l.toArray listed := by
 intro i
 induction i using Nat.strongRecOn with
 | _ i ih =>
  intro hi
  by_cases h : ∃ oi, l.toArray[i]? = some oi ∧ ∃ e ∈ oi.after, Region.binds md e = true ∧ listed.getD e.on false = false
  ·obtain ⟨oi, hoi, e, he, hb, hf⟩ := h
   have hlt := hedges i oi (by simpa using hoi) e he hb
   have hil : i < listed.size := by
    rw [hc.1]; exact (Array.getElem?_eq_some_iff.1 hoi).1
   exact ih e.on hlt (getD_in (by omega) hf)
  ·refine ⟨i, mem_ready.2 ⟨hi, ?_⟩⟩
   have hil : i < l.toArray.size := by
    rw [← hc.1]
    rcases Nat.lt_or_ge i listed.size with h' | h'
    ·exact h'
    ·simp [Array.getElem?_eq_none h'] at hi
   refine ⟨l.toArray[i], by simp [], fun e he hb => ?_⟩
   cases hl : listed.getD e.on false with
   | true => rfl
   | false => exact absurd ⟨l.toArray[i], by simp [], e, he, hb, hl⟩ h
theorem ghost_main (hF : Free F) {l : List Oper} {a0 : Act} (ok : GhostOk md l deps) (hnd : ∀ o ∈ l, ∀ q, o.op ≠ .defer q)
  (hg : ∀ f g w w', U f g w → Below w.heap.size w w' → U f g w')
  (hi : ∀ f f' g g' w, (∀ j, c.getD j none = none → f j = f' j ∧ g j = g' j) → U f g w → U f' g' w)
  (hw : ∀ f g w, U f g w → (∀ k, f k = true → ∀ j ∈ deps.getD k [], f j = true) → GW P l.toArray c deps U Q f g w 0 l a0) :
  ∀ (fuel : Nat) (V : List Nat) (listed : Array Bool) (g : Nat → Value) (a : Act) (w : World), V.Nodup → (∀ i, i ∈ V ↔ listed.getD i true = false) → V.length = fuel → Held md l c deps U a0 listed g a w →
   wpAnyIn F m P md l.toArray Q fuel listed a w := by
 intro fuel
 induction fuel with
 | zero =>
  intro V listed g a w hV hVm hVl H
  have hnil : V = [] := List.eq_nil_of_length_eq_zero hVl
  subst hnil
  have hall : ∀ i, listed.getD i true = true := fun i => by
   cases hi : listed.getD i true with
   | true => rfl
   | false => have := (hVm i).2 hi; cases this
  have hallf : ∀ i, i < l.length → listed.getD i false = true := fun i hil => by
   cases hi : listed.getD i false with
   | true => rfl
   | false => have := getD_in (by rw [H.closed.1]; simpa using hil) hi; rw [hall] at this; cases this
  refine ⟨?_, ?_⟩
  ·apply List.eq_nil_iff_forall_not_mem.2
   intro j hj
   have := (mem_ready.1 hj).1
   rw [hall] at this; cases this
  ·have h0 : putsG (fun j => decide (j < 0)) (knownG c g) 0 l a0 = a0 := by
    rw [putsG_congr l 0 a0 (fun j => decide (j < 0)) (fun _ => false) (knownG c g) g (fun j _ _ => ⟨by simp, fun h => by simp at h⟩)]
    have : ∀ (t : List Oper) k, putsG (fun _ => false) g k t a0 = a0 := by
     intro t
     induction t with
     | nil => intro k; rfl
     | cons o t ih => intro k; simp only [putsG, Bool.false_eq_true, if_false]; exact ih _
    exact this l 0
   have hGW := hw _ _ _ H.world H.down
   rw [← h0] at hGW
   have := (GW.at ok.dsts l 0 (fun j => by simp) (by simp) (by rw [h0] at hGW ⊢; exact hGW)).2 hallf
   rw [H.act]
   rw [putsG_congr l 0 a0 (fun j => listed.getD j false) (fun j => decide (j < l.length)) g (knownG c g) (fun j _ hj => ⟨by rw [hallf j (by omega)]; simp; omega, fun hf => by
    unfold knownG
    cases hc : c.getD j none with
    | none => rfl
    | some v => rw [H.vals j v hf hc]; rfl⟩)]
   exact this
 | succ fuel ih =>
  intro V listed g a w hV hVm hVl H
  refine ⟨fun h0 => ?_, fun i hir => ?_⟩
  ·obtain ⟨j, hj⟩ : ∃ j, j ∈ V := by
    cases V with
    | nil => cases hVl
    | cons x r => exact ⟨x, by simp⟩
   obtain ⟨k, hk⟩ := exists_ready' ok.edges H.closed j ((hVm j).1 hj)
   rw [h0] at hk; cases hk
  ·obtain ⟨hun, oi, hoi, hall⟩ := mem_ready.1 hir
   have hoi' : l[i]? = some oi := by simpa using hoi
   have hilt : i < l.length := (List.getElem?_eq_some_iff.1 hoi').1
   have hiV : i ∈ V := (hVm i).2 hun
   have hV' : (V.erase i).Nodup := hV.erase i
   have hVm' : ∀ j, j ∈ V.erase i ↔ (listed.setIfInBounds i true).getD j true = false := fun j => by
    by_cases hji : j = i
    ·subst hji
     rw [getD_set_true']
     simp [hV.not_mem_erase]
    ·rw [List.mem_erase_of_ne hji, hVm j, getD_set_ne true (Ne.symm hji)]
   have hVl' : (V.erase i).length = fuel := by rw [List.length_erase_of_mem hiV, hVl]; rfl
   have hc' := H.closed.set hir
   have hom : oi ∈ l := List.mem_of_getElem? hoi'
   have hfi : listed.getD i false = false := getD_both hun
   have hdown : ∀ j ∈ deps.getD i [], listed.getD j false = true := fun j hj => by
    obtain ⟨_, k, hk, hjk⟩ := ok.told i hilt j hj
    have hlk := ready_waits hir hk
    rcases hjk with rfl | hjk
    ·exact hlk
    ·exact H.down k hlk j hjk
   have hflag : (fun j => (listed.setIfInBounds i true).getD j false) = upd (fun j => listed.getD j false) i true := by
    funext j
    by_cases hji : j = i
    ·subst hji
     rw [upd_self]
     have : j < listed.size := by rw [H.closed.1]; simpa using hilt
     simp [this]
    ·rw [upd_ne _ _ hji, getD_set_ne false (Ne.symm hji)]
   -- the frame as the walk has it
   let A := putsG (fun j => decide (j < i)) (knownG c g) 0 l a0
   have hA : A = putsG (fun j => decide (j < i)) (knownG c g) 0 l a0 := rfl
   have h0 : putsG (fun j => decide (j < 0)) (knownG c g) 0 l a0 = a0 := by
    rw [putsG_congr l 0 a0 (fun j => decide (j < 0)) (fun _ => false) (knownG c g) g (fun j _ _ => ⟨by simp, fun h => by simp at h⟩)]
    have : ∀ (t : List Oper) k, putsG (fun _ => false) g k t a0 = a0 := by
     intro t
     induction t with
     | nil => intro k; rfl
     | cons o t ih => intro k; simp only [putsG, Bool.false_eq_true, if_false]; exact ih _
    exact this l 0
   have hGW := hw _ _ _ H.world H.down
   have hW := (GW.at (a0 := a0) ok.dsts l 0 (fun j => by simp) (by simp) (by rw [h0]; exact hGW)).1 i oi (Nat.zero_le _) hoi' hdown hfi
   rw [← hA] at hW
   have hsz : A.tmps.size = a.tmps.size := by rw [hA, H.act, putsG_size, putsG_size]
   have htm : ∀ t ∈ oi.looksAt l.toArray, a.tmps[t]? = A.tmps[t]? := fun t ht => by
    rw [hA, H.act]
    refine putsG_agree l 0 a0 a0 _ _ _ _ t rfl rfl (fun j oj hj hd => ?_)
    have hjd := ok.looks i j oi oj hoi' hj t hd ht
    have hlj := hdown j hjd
    have hji := (ok.told i hilt j hjd).1
    rw [Nat.zero_add]
    refine ⟨by show listed.getD j false = decide (j < i); rw [hlj, decide_eq_true hji], fun _ => ?_⟩
    unfold knownG
    cases hc : c.getD j none with
    | none => rfl
    | some v => rw [H.vals j v hlj hc]; rfl
   have hex : execOp a.eval oi = execOp A.eval oi := exec_same oi (fun cs b => ok.sel i oi cs b hoi') a A htm
   have hwn : Region.wanted oi (yielded l.toArray a.tmps) = Region.wanted oi (yielded l.toArray A.tmps) := wanted_same oi a A htm
   have hadA : A.defers = a.defers := by rw [hA, H.act, putsG_defers, putsG_defers]
   -- what comes behind
   have next : ∀ (ds : List Deferred) (v : Value) (w' : World), onceC A oi (fun u w' => match c.getD i none with | some v => u = v ∧ Below w.heap.size w w' | none => U (upd (fun j => listed.getD j false) i true) (upd g i u) w') .normal ((Act.deferring A ds).put oi.dst v) w' →
     wpAnyIn F m P md l.toArray Q fuel (listed.setIfInBounds i true) ((Act.deferring a ds).put oi.dst v) w' := fun ds v w' hnx => by
    obtain ⟨hds, hR⟩ := hnx
    rw [put_defers] at hds
    have hds' : ds = a.defers := by rw [← hadA]; exact hds
    subst hds'
    have hg' : got oi ((Act.deferring A a.defers).put oi.dst v) = got oi (a.put oi.dst v) := got_put_same oi _ _ v hsz
    rw [hg'] at hR
    rw [deferring_self, ← put_got]
    refine ih (V.erase i) _ (upd g i (got oi (a.put oi.dst v))) _ w' hV' hVm' hVl' ⟨hc', ?_, ?_, ?_, ?_⟩
    ·rw [hflag, H.act]
     have := putsG_fire l 0 a0 i oi (got oi (a.put oi.dst v)) (fun j => listed.getD j false) g hoi' (by rw [Nat.zero_add]; exact hfi) (fun j oj hj hne => ok.dsts i j oi oj hoi' hj hne)
     rw [Nat.zero_add] at this
     rw [← H.act]
     rw [this, ← H.act]
    ·intro j v' hj hcj
     by_cases hji : j = i
     ·subst hji
      rw [upd_self]
      rw [hcj] at hR
      exact hR.1
     ·rw [getD_set_ne false (Ne.symm hji)] at hj
      rw [upd_ne _ _ hji]
      exact H.vals j v' hj hcj
    ·intro k hk j hj
     by_cases hki : k = i
     ·subst hki; exact getD_set_true (hdown j hj)
     ·rw [getD_set_ne false (Ne.symm hki)] at hk
      exact getD_set_true (H.down k hk j hj)
    ·rw [hflag]
     cases hc : c.getD i none with
     | none => rw [hc] at hR; exact hR
     | some v' =>
      rw [hc] at hR
      refine hi _ _ _ _ _ (fun j hj => ?_) (hg _ _ _ _ H.world hR.2)
      have hji : j ≠ i := fun e => by rw [e, hc] at hj; cases hj
      exact ⟨(upd_ne (fun j => listed.getD j false) true hji).symm, (upd_ne g _ hji).symm⟩
   unfold wpOpIn
   simp only [hoi]
   simp only [wpList] at hW
   rw [← hwn] at hW
   by_cases hwt : Region.wanted oi (yielded l.toArray a.tmps) = true
   ·rw [if_pos hwt] at hW
    rw [if_pos hwt]
    refine ⟨fun f _ => hF.fn f, ?_⟩
    rw [Oper.semAt_eq _ _ _ (hnd oi hom)]
    rcases hW with hW | ⟨_, hl⟩
    ·unfold Oper.wp at hW
     rw [← hex] at hW
     exact uponIn_frame hF hadA (fun ds v w' h => next ds v w' h) hW
    ·exact absurd hl (not_letsOut _)
   ·rw [if_neg hwt] at hW
    rw [if_neg hwt]
    refine ⟨fun f _ => hF.fn f, ?_⟩
    have := next A.defers undef w (by rw [deferring_self]; exact hW)
    rw [hadA, deferring_self] at this
    exact this
theorem wpIn_region_ghost (hF : Free F) (c : List (Option Value)) (deps : List (List Nat)) (U : (Nat → Bool) → (Nat → Value) → World → Prop) {id : Nat} {a : Act} {w : World} {l : List Oper} (hm : P.follows .mixedOrders = true) (hnd : noDefer l = true) (hB : ghostB .any l deps = true)
  (hg : ∀ f g w w', U f g w → Below w.heap.size w w' → U f g w')
  (hi : ∀ f f' g g' w, (∀ j, c.getD j none = none → f j = f' j ∧ g j = g' j) → U f g w → U f' g' w)
  (h0 : U (fun _ => false) (fun _ => undef) { w with drawn := w.drawn + 1 })
  (hw : ∀ f g w, U f g w → (∀ k, f k = true → ∀ j ∈ deps.getD k [], f j = true) → GW P l.toArray c deps U Q f g w 0 l a) : (Code.region id l.toArray true).wpIn F m P Q a w := by
 have ok := ghostOk hB
 refine wpIn_region_any hm ?_
 have hf0 : (fun j => (Array.replicate l.toArray.size false).getD j false) = fun _ => false := by funext j; exact getD_replicate_false _ _
 refine ghost_main hF ok (noDefer_spec hnd) hg hi hw l.toArray.size (List.range l.toArray.size) _ (fun _ => undef) a _ List.nodup_range (fun i => ?_) (by simp) ⟨⟨by simp, fun j oj _ hl => ?_⟩, ?_, fun j v hj => ?_, fun k hk => ?_, ?_⟩
 ·rw [List.mem_range]
  rcases Nat.lt_or_ge i l.toArray.size with h | h
  ·exact ⟨fun _ => getD_in (by simpa using h) (getD_replicate_false _ _), fun _ => h⟩
  ·refine ⟨fun h' => absurd h' (by omega), fun h' => ?_⟩
   simp only [List.size_toArray] at h
   simp [Array.getD, show ¬ i < l.length by omega] at h'
 ·rw [getD_replicate_false] at hl; cases hl
 ·rw [hf0]
  have : ∀ (t : List Oper) k, putsG (fun _ => false) (fun _ => undef) k t a = a := by
   intro t
   induction t with
   | nil => intro k; rfl
   | cons o t ih => intro k; simp only [putsG, Bool.false_eq_true, if_false]; exact ih _
  exact (this l 0).symm
 ·rw [getD_replicate_false] at hj; cases hj
 ·rw [getD_replicate_false] at hk; cases hk
 ·rw [hf0]; exact h0
theorem wp_region_ghost (c : List (Option Value)) (deps : List (List Nat)) (U : (Nat → Bool) → (Nat → Value) → World → Prop) {id : Nat} {a : Act} {w : World} {l : List Oper} (hm : P.follows .mixedOrders = true) (hnd : noDefer l = true) (hB : ghostB .any l deps = true)
  (hg : ∀ f g w w', U f g w → Below w.heap.size w w' → U f g w')
  (hi : ∀ f f' g g' w, (∀ j, c.getD j none = none → f j = f' j ∧ g j = g' j) → U f g w → U f' g' w)
  (h0 : U (fun _ => false) (fun _ => undef) { w with drawn := w.drawn + 1 })
  (hw : ∀ f g w, U f g w → (∀ k, f k = true → ∀ j ∈ deps.getD k [], f j = true) → GW P l.toArray c deps U Q f g w 0 l a) : (Code.region id l.toArray true).wp P Q a w :=
 wpIn_wide.1 (wpIn_region_ghost (m := 0) free_wide c deps U hm hnd hB hg hi h0 hw)
end
end
section
open Go Go.RowKit
section
variable {P : Program} {md : Region.Mode}
inductive Anc (md : Region.Mode) (ops : Array Oper) : Nat → Nat → Prop
 | one {i j : Nat} (h : Region.waitsFor md ops i j = true) : Anc md ops i j
 | step {i k j : Nat} (h : Region.waitsFor md ops i k = true) (t : Anc md ops k j) : Anc md ops i j
theorem anc_listed {ops : Array Oper} {listed : Array Bool} (hc : Closed md ops listed) {i j : Nat} (h : Anc md ops i j) : listed.getD i false = true → listed.getD j false = true := by
 induction h with
 | one h => exact fun hl => closed_waits hc hl h
 | step h _ ih => exact fun hl => ih (closed_waits hc hl h)
theorem anc_ready {ops : Array Oper} {listed : Array Bool} (hc : Closed md ops listed) {i j : Nat} (h : Anc md ops i j) (hr : i ∈ Region.ready md ops listed) : listed.getD j false = true := by
 cases h with
 | one h => exact ready_waits hr h
 | step h t => exact anc_listed hc t (ready_waits hr h)
structure QuickOk (md : Region.Mode) (l : List Oper) : Prop where
 sel : ∀ (j : Nat) (o : Oper) cs b, l[j]? = some o → o.op ≠ .select cs b
 edges : ∀ (j : Nat) (oj : Oper), l[j]? = some oj → ∀ e ∈ oj.after, Region.binds md e = true → e.on < j
 looks : ∀ (i j : Nat) (oi oj : Oper), l[i]? = some oi → l[j]? = some oj → ∀ d, oj.dst = some d → d ∈ oi.looksAt l.toArray → j < i ∧ Anc md l.toArray i j
 dsts : ∀ (i j : Nat) (oi oj : Oper), l[i]? = some oi → l[j]? = some oj → j ≠ i → ∀ d, oi.dst = some d → oj.dst ≠ some d
def dstBit (o : Oper) : Nat := match o.dst with | some d => 2 ^ d | none => 0
def allBits : List Oper → Nat
 | [] => 0
 | o :: l => dstBit o ||| allBits l
def upBits (md : Region.Mode) (i : Nat) (ms : List Nat) : List Edge → Nat
 | [] => 0
 | e :: r => (if Region.binds md e then ms.getD (i - 1 - e.on) 0 else 0) ||| upBits md i ms r
def looksOp (ops : Array Oper) (o : Oper) (W m : Nat) : Bool := (o.looksAt ops).all fun t => !W.testBit t || m.testBit t
def quickGo (md : Region.Mode) (ops : Array Oper) (W : Nat) : Nat → List Oper → List Nat → Nat → Bool
 | _, [], _, _ => true
 | i, o :: l, ms, seen =>
  (match o.op with | .select .. => false | _ => true) &&
  (o.after.toList.all fun e => !Region.binds md e || decide (e.on < i)) &&
  (match o.dst with | some d => !seen.testBit d | none => true) &&
  (let m := upBits md i ms o.after.toList
   looksOp ops o W m && quickGo md ops W (i + 1) l ((m ||| dstBit o) :: ms) (seen ||| dstBit o))
def quickB (md : Region.Mode) (l : List Oper) : Bool := quickGo md l.toArray (allBits l) 0 l [] 0
theorem dstBit_spec {o : Oper} {t : Nat} : (dstBit o).testBit t = true ↔ o.dst = some t := by
 unfold dstBit
 cases o.dst with
 | none => simp
 | some d => rw [Nat.testBit_two_pow]; simp
theorem allBits_spec : ∀ (l : List Oper) (t : Nat), (allBits l).testBit t = true ↔ ∃ (j : Nat) (o : Oper), l[j]? = some o ∧ o.dst = some t
 | [], t => by simp [allBits]
 | o :: l, t => by
  rw [allBits, Nat.testBit_or, Bool.or_eq_true, dstBit_spec, allBits_spec l t]
  constructor
  ·rintro (h | ⟨j, p, hj, hp⟩)
   ·exact ⟨0, o, rfl, h⟩
   ·exact ⟨j + 1, p, by simpa using hj, hp⟩
  ·rintro ⟨j, p, hj, hp⟩
   cases j with
   | zero =>
    left
    have : o = p := by simpa using hj
    rw [this]
    exact hp
   | succ j => exact .inr ⟨j, p, by simpa using hj, hp⟩
def MaskOk (md : Region.Mode) (l : List Oper) (k m : Nat) : Prop := ∀ t, m.testBit t = true → ∃ (j : Nat) (oj : Oper), l[j]? = some oj ∧ oj.dst = some t ∧ j ≤ k ∧ (j = k ∨ Anc md l.toArray k j)
theorem upBits_spec {l : List Oper} {i : Nat} {ms : List Nat} (hms : ∀ k, k < i → MaskOk md l k (ms.getD (i - 1 - k) 0)) : ∀ (es : List Edge), (∀ e ∈ es, Region.binds md e = true → e.on < i) → ∀ t, (upBits md i ms es).testBit t = true →
  ∃ e ∈ es, Region.binds md e = true ∧ ∃ (j : Nat) (oj : Oper), l[j]? = some oj ∧ oj.dst = some t ∧ j ≤ e.on ∧ (j = e.on ∨ Anc md l.toArray e.on j)
 | [], _, t, h => by simp [upBits] at h
 | e :: r, he, t, h => by
  rw [upBits, Nat.testBit_or, Bool.or_eq_true] at h
  rcases h with h | h
  ·by_cases hb : Region.binds md e = true
   ·rw [if_pos hb] at h
    exact ⟨e, by simp, hb, hms e.on (he e (by simp) hb) t h⟩
   ·rw [if_neg hb] at h; simp at h
  ·obtain ⟨e', he', rest⟩ := upBits_spec hms r (fun x hx => he x (by simp [hx])) t h
   exact ⟨e', by simp [he'], rest⟩
theorem quickGo_spec {l : List Oper} : ∀ (r : List Oper) (i : Nat) (ms : List Nat) (seen : Nat), (∀ j, r[j]? = l[i + j]?) → (∀ k, k < i → MaskOk md l k (ms.getD (i - 1 - k) 0)) →
  (∀ (j : Nat) (oj : Oper), j < i → l[j]? = some oj → ∀ d, oj.dst = some d → seen.testBit d = true) → quickGo md l.toArray (allBits l) i r ms seen = true →
  ∀ (k : Nat) (o : Oper), i ≤ k → l[k]? = some o → (∀ cs b, o.op ≠ .select cs b) ∧ (∀ e ∈ o.after, Region.binds md e = true → e.on < k) ∧
   (∀ (j : Nat) (oj : Oper), l[j]? = some oj → ∀ d, oj.dst = some d → d ∈ o.looksAt l.toArray → ∃ (j' : Nat) (oj' : Oper), l[j']? = some oj' ∧ oj'.dst = some d ∧ j' < k ∧ Anc md l.toArray k j') ∧
   (∀ (j : Nat) (oj : Oper), j < k → l[j]? = some oj → ∀ d, o.dst = some d → oj.dst ≠ some d)
 | [], i, ms, seen, hr, _, _, _, k, o, hk, ho => by
  have := hr (k - i)
  rw [show i + (k - i) = k by omega, ho] at this
  simp at this
 | p :: r, i, ms, seen, hr, hms, hseen, h, k, o, hk, ho => by
  have h0 : l[i]? = some p := by simpa using (hr 0).symm
  rw [quickGo] at h
  simp only [Bool.and_eq_true] at h
  obtain ⟨⟨⟨h1, h2⟩, h3⟩, h4, h5⟩ := h
  have hes : ∀ e ∈ p.after.toList, Region.binds md e = true → e.on < i := fun e he hb => by
   have := List.all_eq_true.1 h2 e he
   rw [hb] at this
   simpa using this
  have hup := upBits_spec (md := md) (l := l) hms p.after.toList hes
  rcases Nat.eq_or_lt_of_le hk with rfl | hlt
  ·have : o = p := Option.some.inj (ho.symm.trans h0)
   subst this
   refine ⟨fun cs b e => ?_, fun e he => hes e (by simpa using he), fun j oj hj d hd hin => ?_, fun j oj hjk hj d hd hd' => ?_⟩
   ·rw [e] at h1
    cases h1
   ·have := List.all_eq_true.1 h4 d hin
    rw [(allBits_spec l d).2 ⟨j, oj, hj, hd⟩] at this
    obtain ⟨e, he, hb, j', oj', hj', hd', hle, hor⟩ := hup d (by simpa using this)
    have hlt := hes e he hb
    have hw : Region.waitsFor md l.toArray i e.on = true := by
     unfold Region.waitsFor
     simp only [List.getElem?_toArray, h0]
     exact Array.any_eq_true'.2 ⟨e, by simpa using he, by simp [hb]⟩
    refine ⟨j', oj', hj', hd', by omega, ?_⟩
    rcases hor with rfl | ha
    ·exact .one hw
    ·exact .step hw ha
   ·rw [hd] at h3
    simp only [] at h3
    rw [hseen j oj hjk hj d hd'] at h3
    cases h3
  ·refine quickGo_spec r (i + 1) _ _ (fun j => ?_) (fun k' hk' => ?_) (fun j oj hj hl d hd => ?_) h5 k o hlt ho
   ·have := hr (j + 1)
    rw [show i + (j + 1) = i + 1 + j by omega] at this
    simpa using this
   ·rcases Nat.lt_succ_iff_lt_or_eq.1 hk' with h' | rfl
    ·rw [show i + 1 - 1 - k' = (i - 1 - k') + 1 by omega, List.getD_cons_succ]
     exact hms k' h'
    ·rw [show k' + 1 - 1 - k' = 0 by omega, List.getD_cons_zero]
     intro t ht
     rw [Nat.testBit_or, Bool.or_eq_true] at ht
     rcases ht with ht | ht
     ·obtain ⟨e, he, hb, j', oj', hj', hd', hle, hor⟩ := hup t ht
      have hlt := hes e he hb
      have hw : Region.waitsFor md l.toArray k' e.on = true := by
       unfold Region.waitsFor
       simp only [List.getElem?_toArray, h0]
       exact Array.any_eq_true'.2 ⟨e, by simpa using he, by simp [hb]⟩
      refine ⟨j', oj', hj', hd', by omega, .inr ?_⟩
      rcases hor with rfl | ha
      ·exact .one hw
      ·exact .step hw ha
     ·exact ⟨k', p, h0, dstBit_spec.1 ht, Nat.le_refl _, .inl rfl⟩
   ·rw [Nat.testBit_or, Bool.or_eq_true]
    rcases Nat.lt_succ_iff_lt_or_eq.1 hj with h' | rfl
    ·exact .inl (hseen j oj h' hl d hd)
    ·have : oj = p := Option.some.inj (hl.symm.trans h0)
     subst this
     exact .inr (dstBit_spec.2 hd)
theorem quickOk {l : List Oper} (h : quickB md l = true) : QuickOk md l := by
 have S := quickGo_spec (md := md) (l := l) l 0 [] 0 (fun j => by simp) (fun k hk => by omega) (fun j _ hj => by omega) h
 have D : ∀ (i j : Nat) (oi oj : Oper), l[i]? = some oi → l[j]? = some oj → j ≠ i → ∀ d, oi.dst = some d → oj.dst ≠ some d := fun i j oi oj hi hj hne d hd hd' => by
  rcases Nat.lt_or_gt_of_ne hne with hlt | hlt
  ·exact (S i oi (Nat.zero_le _) hi).2.2.2 j oj hlt hj d hd hd'
  ·exact (S j oj (Nat.zero_le _) hj).2.2.2 i oi hlt hi d hd' hd
 refine ⟨fun j o cs b hj => (S j o (Nat.zero_le _) hj).1 cs b, fun j oj hj => (S j oj (Nat.zero_le _) hj).2.1, fun i j oi oj hi hj d hd hin => ?_, D⟩
 obtain ⟨j', oj', hj', hd', hlt, ha⟩ := (S i oi (Nat.zero_le _) hi).2.2.1 j oj hj d hd hin
 by_cases e : j = j'
 ·subst e; exact ⟨hlt, ha⟩
 ·exact absurd hd (D j' j oj' oj hj' hj e d hd')
variable {C : World → Prop} {F : Fence} {m : Nat}
theorem vals_of_walk {l : List Oper} {a0 : Act} {R : Act → Prop} (hd : ∀ (i j : Nat) (oi oj : Oper), l[i]? = some oi → l[j]? = some oj → j ≠ i → ∀ d, oi.dst = some d → oj.dst ≠ some d) :
  ∀ (t : List Oper) (k : Nat) (vs : Nat → Value), (∀ j, t[j]? = l[k + j]?) → k + t.length = l.length → wpQuiet P l.toArray C R t (putsG (fun j => decide (j < k)) vs 0 l a0) →
  ∃ vs' : Nat → Value, (∀ j, j < k → vs' j = vs j) ∧ (∀ (i : Nat) (o : Oper), k ≤ i → l[i]? = some o → YieldsIn P l.toArray C o (vs' i) (putsG (fun j => decide (j < i)) vs' 0 l a0)) ∧ R (putsG (fun j => decide (j < l.length)) vs' 0 l a0)
 | [], k, vs, hl, hk, h => by
  simp only [List.length_nil, Nat.add_zero] at hk
  subst hk
  refine ⟨vs, fun _ _ => rfl, fun i o hi ho => ?_, h⟩
  rw [List.getElem?_eq_none hi] at ho
  cases ho
 | o :: t, k, vs, hl, hk, h => by
  have h0 : l[k]? = some o := by simpa using (hl 0).symm
  have hq : qOp P l.toArray C k (wpQuiet P l.toArray C R t) (putsG (fun j => decide (j < k)) vs 0 l a0) := by
   unfold qOp
   simp only [List.getElem?_toArray, h0]
   exact h
  obtain ⟨v, hy, hK⟩ := yieldsIn_of_qOp (by simpa using h0) hq
  have hfire := putsG_fire l 0 a0 k o v (fun j => decide (j < k)) vs h0 (by simp) (fun j oj hj hne => hd k j o oj h0 hj hne)
  rw [Nat.zero_add] at hfire
  have hput : putsG (upd (fun j => decide (j < k)) k true) (upd vs k v) 0 l a0 = putsG (fun j => decide (j < k + 1)) (upd vs k v) 0 l a0 := by
   refine putsG_congr l 0 a0 _ _ _ _ (fun j _ _ => ⟨?_, fun _ => rfl⟩)
   by_cases hj : j = k
   ·subst hj; rw [upd_self]; simp
   ·rw [upd_ne _ _ hj]; exact decide_eq_decide.2 (by omega)
  rw [← hfire, hput] at hK
  obtain ⟨vs', h1, h2, h3⟩ := vals_of_walk hd t (k + 1) (upd vs k v) (fun j => by have := hl (j + 1); simpa [Nat.add_assoc, Nat.add_comm 1 j] using this) (by simp only [List.length_cons] at hk; omega) hK
  refine ⟨vs', fun j hj => by rw [h1 j (by omega), upd_ne _ _ (by omega)], fun i oi hi ho => ?_, h3⟩
  rcases Nat.eq_or_lt_of_le hi with rfl | hlt
  ·have : oi = o := Option.some.inj (ho.symm.trans h0)
   subst this
   rw [h1 k (by omega), upd_self]
   rw [putsG_congr l 0 a0 (fun j => decide (j < k)) (fun j => decide (j < k)) vs' vs (fun j _ _ => ⟨rfl, fun hj => by
    have hj' : j < k := by simpa using hj
    rw [h1 j (by omega), upd_ne _ _ (by omega)]⟩)]
   exact hy
  ·exact h2 i oi hlt ho
theorem quick_main (hF : Free F) {l : List Oper} {a0 : Act} {vs : Nat → Value} {Q : Exit → Act → World → Prop} (ok : QuickOk md l) (hnd : ∀ o ∈ l, ∀ q, o.op ≠ .defer q)
  (hy : ∀ (i : Nat) (o : Oper), l[i]? = some o → YieldsIn P l.toArray C o (vs i) (putsG (fun j => decide (j < i)) vs 0 l a0)) (hQ : ∀ w, C w → Q .normal (putsG (fun j => decide (j < l.length)) vs 0 l a0) w) :
  ∀ (fuel : Nat) (V : List Nat) (listed : Array Bool) (w : World), V.Nodup → (∀ i, i ∈ V ↔ listed.getD i true = false) → V.length = fuel → Closed md l.toArray listed → C w →
   wpAnyIn F m P md l.toArray Q fuel listed (putsG (fun j => listed.getD j false) vs 0 l a0) w := by
 intro fuel
 induction fuel with
 | zero =>
  intro V listed w hV hVm hVl hc hC
  have hnil : V = [] := List.eq_nil_of_length_eq_zero hVl
  subst hnil
  have hall : ∀ i, listed.getD i true = true := fun i => by
   cases hi : listed.getD i true with
   | true => rfl
   | false => have := (hVm i).2 hi; cases this
  refine ⟨?_, ?_⟩
  ·apply List.eq_nil_iff_forall_not_mem.2
   intro j hj
   have := (mem_ready.1 hj).1
   rw [hall] at this; cases this
  ·rw [putsG_congr l 0 a0 (fun j => listed.getD j false) (fun j => decide (j < l.length)) vs vs (fun j _ hj => ⟨?_, fun _ => rfl⟩)]
   ·exact hQ w hC
   ·cases hi : listed.getD j false with
    | true => simp; omega
    | false => have := getD_in (by rw [hc.1]; simpa using (show j < l.length by omega)) hi; rw [hall] at this; cases this
 | succ fuel ih =>
  intro V listed w hV hVm hVl hc hC
  refine ⟨fun h0 => ?_, fun i hir => ?_⟩
  ·obtain ⟨j, hj⟩ : ∃ j, j ∈ V := by
    cases V with
    | nil => cases hVl
    | cons x r => exact ⟨x, by simp⟩
   obtain ⟨k, hk⟩ := exists_ready' ok.edges hc j ((hVm j).1 hj)
   rw [h0] at hk; cases hk
  ·obtain ⟨hun, oi, hoi, hall⟩ := mem_ready.1 hir
   have hoi' : l[i]? = some oi := by simpa using hoi
   have hilt : i < l.length := (List.getElem?_eq_some_iff.1 hoi').1
   have hiV : i ∈ V := (hVm i).2 hun
   have hV' : (V.erase i).Nodup := hV.erase i
   have hVm' : ∀ j, j ∈ V.erase i ↔ (listed.setIfInBounds i true).getD j true = false := fun j => by
    by_cases hji : j = i
    ·subst hji
     rw [getD_set_true']
     simp [hV.not_mem_erase]
    ·rw [List.mem_erase_of_ne hji, hVm j, getD_set_ne true (Ne.symm hji)]
   have hVl' : (V.erase i).length = fuel := by rw [List.length_erase_of_mem hiV, hVl]; rfl
   have hc' := hc.set hir
   have hom : oi ∈ l := List.mem_of_getElem? hoi'
   have hfi : listed.getD i false = false := getD_both hun
   have hflag : (fun j => (listed.setIfInBounds i true).getD j false) = upd (fun j => listed.getD j false) i true := by
    funext j
    by_cases hji : j = i
    ·subst hji
     rw [upd_self]
     have : j < listed.size := by rw [hc.1]; simpa using hilt
     simp [this]
    ·rw [upd_ne _ _ hji, getD_set_ne false (Ne.symm hji)]
   have htm : ∀ t ∈ oi.looksAt l.toArray, (putsG (fun j => listed.getD j false) vs 0 l a0).tmps[t]? = (putsG (fun j => decide (j < i)) vs 0 l a0).tmps[t]? := fun t ht => by
    refine putsG_agree l 0 a0 a0 _ _ _ _ t rfl rfl (fun j oj hj hd => ?_)
    obtain ⟨hlt, ha⟩ := ok.looks i j oi oj hoi' hj t hd ht
    rw [Nat.zero_add]
    exact ⟨by show listed.getD j false = decide (j < i); rw [anc_ready hc ha hir, decide_eq_true hlt], fun _ => rfl⟩
   have hya := (hy i oi hoi').of_same (exec_same oi (fun cs b => ok.sel i oi cs b hoi') _ _ htm) (wanted_same oi _ _ htm)
   have hfire := putsG_fire l 0 a0 i oi (vs i) (fun j => listed.getD j false) vs hoi' (by rw [Nat.zero_add]; exact hfi) (fun j oj hj hne => ok.dsts i j oi oj hoi' hj hne)
   rw [Nat.zero_add] at hfire
   have hself : upd vs i (vs i) = vs := by
    funext j
    by_cases hji : j = i
    ·subst hji; rw [upd_self]
    ·rw [upd_ne _ _ hji]
   rw [hself, ← hflag] at hfire
   refine wpOpIn_of_qOpF (C := C) hF (by simpa using hnd) hC (K := fun a' => a' = putsG (fun j => (listed.setIfInBounds i true).getD j false) vs 0 l a0) (fun a' w' hw' e => by subst e; exact ih _ _ w' hV' hVm' hVl' hc' hw') ?_
   exact hya.qOp hoi hfire.symm
theorem wpIn_region_quick (hF : Free F) {id : Nat} {Q : Exit → Act → World → Prop} {a : Act} {w : World} {l : List Oper} (hm : P.follows .mixedOrders = true) (hnd : noDefer l = true) (hB : quickB .any l = true)
  (hC : C { w with drawn := w.drawn + 1 }) (h : wpQuiet P l.toArray C (fun a' => ∀ w', C w' → Q .normal a' w') l a) : (Code.region id l.toArray true).wpIn F m P Q a w := by
 have ok := quickOk hB
 have h00 : ∀ (vs : Nat → Value) (t : List Oper) k, putsG (fun _ => false) vs k t a = a := by
  intro vs t
  induction t with
  | nil => intro k; rfl
  | cons o t ih => intro k; simp only [putsG, Bool.false_eq_true, if_false]; exact ih _
 have e0 : ∀ vs : Nat → Value, putsG (fun j => decide (j < 0)) vs 0 l a = a := fun vs => by
  rw [putsG_congr l 0 a (fun j => decide (j < 0)) (fun _ => false) vs vs (fun j _ _ => ⟨by simp, fun _ => rfl⟩)]
  exact h00 vs l 0
 obtain ⟨vs, _, hy, hQ⟩ := vals_of_walk (C := C) (a0 := a) ok.dsts l 0 (fun _ => undef) (fun j => by simp) (by simp) (by rw [e0]; exact h)
 refine wpIn_region_any hm ?_
 have hf0 : (fun j => (Array.replicate l.toArray.size false).getD j false) = fun _ => false := by funext j; exact getD_replicate_false _ _
 have := quick_main (m := m) (C := C) (Q := Q) hF ok (noDefer_spec hnd) (fun i o ho => hy i o (Nat.zero_le _) ho) hQ l.toArray.size (List.range l.toArray.size) (Array.replicate l.toArray.size false) { w with drawn := w.drawn + 1 } List.nodup_range (fun i => ?_) (by simp) ⟨by simp, fun j oj _ hl => ?_⟩ hC
 ·rw [hf0, h00] at this
  exact this
 ·rw [List.mem_range]
  rcases Nat.lt_or_ge i l.toArray.size with h | h
  ·exact ⟨fun _ => getD_in (by simpa using h) (getD_replicate_false _ _), fun _ => h⟩
  ·refine ⟨fun h' => absurd h' (by omega), fun h' => ?_⟩
   simp only [List.size_toArray] at h
   simp [Array.getD, show ¬ i < l.length by omega] at h'
 ·rw [getD_replicate_false] at hl; cases hl
theorem wp_region_quick {id : Nat} {Q : Exit → Act → World → Prop} {a : Act} {w : World} {l : List Oper} (hm : P.follows .mixedOrders = true) (hnd : noDefer l = true) (hB : quickB .any l = true)
  (hC : C { w with drawn := w.drawn + 1 }) (h : wpQuiet P l.toArray C (fun a' => ∀ w', C w' → Q .normal a' w') l a) : (Code.region id l.toArray true).wp P Q a w :=
 wpIn_wide.1 (wpIn_region_quick (m := 0) free_wide hm hnd hB hC h)
end
end
end Go.Proofs.YtnkhmgmganejmaaGreatDoor
