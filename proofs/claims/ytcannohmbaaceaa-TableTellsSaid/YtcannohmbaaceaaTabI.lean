/- Tables: the model. Slots are pairs of numbers. Conditions: none. -/
import Derived.Test.YtcannohmbaaceaaMath
namespace Go.Proofs.Ytcannohmbaaceaa

abbrev Sl := Nat × Nat
/-- Keys rise. -/
def Rise (l : List Sl) : Prop := l.Pairwise (fun x y => x.1 < y.1)
/-- What is kept for a key, if anything is. -/
def lk : List Sl → Nat → Option Nat
  | [], _ => none
  | x :: r, k => if x.1 = k then some x.2 else lk r k
def look (l : List Sl) (k : Nat) : Nat := (lk l k).getD 0
def Kept (l : List Sl) : Prop := Rise l ∧ ∀ x ∈ l, x.2 ≠ 0
theorem lk_none {l : List Sl} {k : Nat} (h : ∀ x ∈ l, x.1 ≠ k) : lk l k = none := by
  induction l with
  | nil => rfl
  | cons x r ih =>
    rw [lk, if_neg (h x (by simp))]
    exact ih (fun y hy => h y (by simp [hy]))
theorem lk_mem {l : List Sl} {k v : Nat} (h : lk l k = some v) : (k, v) ∈ l := by
  induction l with
  | nil => cases h
  | cons x r ih =>
    rw [lk] at h
    split at h
    · rename_i e
      injection h with h
      subst e h
      simp
    · exact List.mem_cons_of_mem _ (ih h)
theorem lk_of_mem {l : List Sl} (hr : Rise l) {x : Sl} (h : x ∈ l) : lk l x.1 = some x.2 := by
  induction l with
  | nil => cases h
  | cons y r ih =>
    have h1 := List.pairwise_cons.1 hr
    rw [lk]
    rcases List.mem_cons.1 h with rfl | h
    · rw [if_pos rfl]
    · have := h1.1 x h
      rw [if_neg (by omega)]
      exact ih h1.2 h
theorem rise_lt {x : Sl} {r : List Sl} (h : Rise (x :: r)) {k : Nat} (hk : k ≤ x.1) : lk r k = none :=
  lk_none (fun y hy => by have := (List.pairwise_cons.1 h).1 y hy; omega)
theorem kept_cons {x : Sl} {r : List Sl} (h : Kept (x :: r)) : Kept r := ⟨(List.pairwise_cons.1 h.1).2, fun y hy => h.2 y (by simp [hy])⟩
theorem lk_ext : ∀ {a b : List Sl}, Rise a → Rise b → (∀ k, lk a k = lk b k) → a = b
  | [], [], _, _, _ => rfl
  | [], y :: b, _, _, h => by have := h y.1; rw [lk, lk, if_pos rfl] at this; cases this
  | x :: a, [], _, _, h => by have := h x.1; rw [lk, lk, if_pos rfl] at this; cases this
  | x :: a, y :: b, ha, hb, h => by
    have e1 : x.1 = y.1 := by
      rcases Nat.lt_trichotomy x.1 y.1 with hlt | he | hlt
      · have := h x.1
        rw [lk, if_pos rfl, lk, if_neg (by omega), rise_lt hb (by omega)] at this
        cases this
      · exact he
      · have := h y.1
        rw [lk, if_neg (by omega), rise_lt ha (by omega), lk, if_pos rfl] at this
        cases this
    have e2 : x.2 = y.2 := by
      have := h x.1
      rw [lk, if_pos rfl, lk, if_pos e1.symm] at this
      exact Option.some.inj this
    have e3 : x = y := Prod.ext e1 e2
    subst e3
    congr 1
    refine lk_ext (List.pairwise_cons.1 ha).2 (List.pairwise_cons.1 hb).2 (fun k => ?_)
    by_cases hk : x.1 = k
    · subst hk
      rw [rise_lt ha (Nat.le_refl _), rise_lt hb (Nat.le_refl _)]
    · have := h k
      rw [lk, if_neg hk, lk, if_neg hk] at this
      exact this
theorem look_lk {l : List Sl} (h : Kept l) (k : Nat) : lk l k = if look l k = 0 then none else some (look l k) := by
  unfold look
  rcases hl : lk l k with _ | v
  · rfl
  · have := h.2 _ (lk_mem hl)
    simp at this ⊢
    exact this
theorem kept_ext {a b : List Sl} (ha : Kept a) (hb : Kept b) (h : ∀ k, look a k = look b k) : a = b :=
  lk_ext ha.1 hb.1 (fun k => by rw [look_lk ha, look_lk hb, h k])

/-- A key, what the first keeps, what the second does, and whether it does. -/
structure Pr where
  key : Nat
  fst : Nat
  snd : Nat
  ins : Bool
/-- Two tables at once. -/
def bothL : List Sl → List Sl → List Pr
  | [], [] => []
  | [], y :: b => ⟨y.1, 0, y.2, true⟩ :: bothL [] b
  | x :: a, [] => ⟨x.1, x.2, 0, false⟩ :: bothL a []
  | x :: a, y :: b => if x.1 < y.1 then ⟨x.1, x.2, 0, false⟩ :: bothL a (y :: b) else if y.1 < x.1 then ⟨y.1, 0, y.2, true⟩ :: bothL (x :: a) b else ⟨x.1, x.2, y.2, true⟩ :: bothL a b
termination_by a b => a.length + b.length
theorem bothL_len (a b : List Sl) : (bothL a b).length ≤ a.length + b.length := by
  fun_induction bothL a b with
  | case1 => simp
  | case2 y b ih => simp only [List.length_cons, List.length_nil] at *; omega
  | case3 x a ih => simp only [List.length_cons, List.length_nil] at *; omega
  | case4 x a y b h ih => simp only [List.length_cons, List.length_nil] at *; omega
  | case5 x a y b h h' ih => simp only [List.length_cons, List.length_nil] at *; omega
  | case6 x a y b h h' ih => simp only [List.length_cons, List.length_nil] at *; omega
/-- Of each pair what is wanted. -/
def listF (w : Pr → Option Nat) (l : List Pr) : List Sl := l.filterMap (fun p => (w p).map (fun v => (p.key, v)))
theorem bothL_key (a b : List Sl) : ∀ p ∈ bothL a b, (∃ x ∈ a, x.1 = p.key) ∨ ∃ y ∈ b, y.1 = p.key := by
  fun_induction bothL a b with
  | case1 => intro p hp; cases hp
  | case2 y b ih =>
    intro p hp
    rcases List.mem_cons.1 hp with rfl | hp
    · exact .inr ⟨y, by simp, rfl⟩
    · rcases ih p hp with ⟨x, hx, _⟩ | ⟨z, hz, e⟩
      · cases hx
      · exact .inr ⟨z, by simp [hz], e⟩
  | case3 x a ih =>
    intro p hp
    rcases List.mem_cons.1 hp with rfl | hp
    · exact .inl ⟨x, by simp, rfl⟩
    · rcases ih p hp with ⟨z, hz, e⟩ | ⟨z, hz, _⟩
      · exact .inl ⟨z, by simp [hz], e⟩
      · cases hz
  | case4 x a y b h ih =>
    intro p hp
    rcases List.mem_cons.1 hp with rfl | hp
    · exact .inl ⟨x, by simp, rfl⟩
    · rcases ih p hp with ⟨z, hz, e⟩ | ⟨z, hz, e⟩
      · exact .inl ⟨z, by simp [hz], e⟩
      · exact .inr ⟨z, hz, e⟩
  | case5 x a y b h h2 ih =>
    intro p hp
    rcases List.mem_cons.1 hp with rfl | hp
    · exact .inr ⟨y, by simp, rfl⟩
    · rcases ih p hp with ⟨z, hz, e⟩ | ⟨z, hz, e⟩
      · exact .inl ⟨z, hz, e⟩
      · exact .inr ⟨z, by simp [hz], e⟩
  | case6 x a y b h h2 ih =>
    intro p hp
    rcases List.mem_cons.1 hp with rfl | hp
    · exact .inl ⟨x, by simp, rfl⟩
    · rcases ih p hp with ⟨z, hz, e⟩ | ⟨z, hz, e⟩
      · exact .inl ⟨z, by simp [hz], e⟩
      · exact .inr ⟨z, by simp [hz], e⟩
theorem bothL_rise (a b : List Sl) (ha : Rise a) (hb : Rise b) : (bothL a b).Pairwise (fun p q => p.key < q.key) := by
  fun_induction bothL a b with
  | case1 => exact List.Pairwise.nil
  | case2 y b ih =>
    have h1 := List.pairwise_cons.1 hb
    refine List.pairwise_cons.2 ⟨fun p hp => ?_, ih ha h1.2⟩
    rcases bothL_key [] b p hp with ⟨x, hx, _⟩ | ⟨z, hz, e⟩
    · cases hx
    · have := h1.1 z hz; show y.1 < p.key; omega
  | case3 x a ih =>
    have h1 := List.pairwise_cons.1 ha
    refine List.pairwise_cons.2 ⟨fun p hp => ?_, ih h1.2 hb⟩
    rcases bothL_key a [] p hp with ⟨z, hz, e⟩ | ⟨z, hz, _⟩
    · have := h1.1 z hz; show x.1 < p.key; omega
    · cases hz
  | case4 x a y b h ih =>
    have h1 := List.pairwise_cons.1 ha
    have h2 := List.pairwise_cons.1 hb
    refine List.pairwise_cons.2 ⟨fun p hp => ?_, ih h1.2 hb⟩
    rcases bothL_key a (y :: b) p hp with ⟨z, hz, e⟩ | ⟨z, hz, e⟩
    · have := h1.1 z hz; show x.1 < p.key; omega
    · rcases List.mem_cons.1 hz with rfl | hz
      · show x.1 < p.key; omega
      · have := h2.1 z hz; show x.1 < p.key; omega
  | case5 x a y b h h' ih =>
    have h1 := List.pairwise_cons.1 ha
    have h2 := List.pairwise_cons.1 hb
    refine List.pairwise_cons.2 ⟨fun p hp => ?_, ih ha h2.2⟩
    rcases bothL_key (x :: a) b p hp with ⟨z, hz, e⟩ | ⟨z, hz, e⟩
    · rcases List.mem_cons.1 hz with rfl | hz
      · show y.1 < p.key; omega
      · have := h1.1 z hz; show y.1 < p.key; omega
    · have := h2.1 z hz; show y.1 < p.key; omega
  | case6 x a y b h h' ih =>
    have h1 := List.pairwise_cons.1 ha
    have h2 := List.pairwise_cons.1 hb
    refine List.pairwise_cons.2 ⟨fun p hp => ?_, ih h1.2 h2.2⟩
    rcases bothL_key a b p hp with ⟨z, hz, e⟩ | ⟨z, hz, e⟩
    · have := h1.1 z hz; show x.1 < p.key; omega
    · have := h2.1 z hz; show x.1 < p.key; omega
theorem listF_rise {w : Pr → Option Nat} {l : List Pr} (h : l.Pairwise (fun p q => p.key < q.key)) : Rise (listF w l) := by
  unfold Rise listF
  rw [List.pairwise_filterMap]
  refine h.imp (fun {p q} hpq x hx y hy => ?_)
  simp at hx hy
  obtain ⟨v, _, rfl⟩ := hx
  obtain ⟨u, _, rfl⟩ := hy
  exact hpq
/-- What two tables' pair of a key comes to. -/
def at2 (w : Pr → Option Nat) (k : Nat) : Option Nat → Option Nat → Option Nat
  | none, none => none
  | some v, none => w ⟨k, v, 0, false⟩
  | none, some u => w ⟨k, 0, u, true⟩
  | some v, some u => w ⟨k, v, u, true⟩
theorem lk_cons_listF (w : Pr → Option Nat) (p : Pr) (l : List Pr) (k : Nat) (hn : p.key = k → lk (listF w l) k = none) : lk (listF w (p :: l)) k = if p.key = k then w p else lk (listF w l) k := by
  unfold listF
  rw [List.filterMap_cons]
  rcases hw : w p with _ | v
  · simp only [Option.map_none]
    split
    · rename_i e; exact hn e
    · rfl
  · simp only [Option.map_some]
    rw [lk]
theorem lk_listF_none {w : Pr → Option Nat} {l : List Pr} {k : Nat} (h : ∀ p ∈ l, p.key ≠ k) : lk (listF w l) k = none := by
  refine lk_none (fun x hx => ?_)
  unfold listF at hx
  obtain ⟨p, hp, e⟩ := List.mem_filterMap.1 hx
  simp at e
  obtain ⟨v, _, rfl⟩ := e
  exact h p hp
theorem lk_both (w : Pr → Option Nat) (a b : List Sl) (ha : Rise a) (hb : Rise b) (k : Nat) : lk (listF w (bothL a b)) k = at2 w k (lk a k) (lk b k) := by
  have key : ∀ (p : Pr) (l : List Pr), (p :: l).Pairwise (fun p q => p.key < q.key) → p.key = k → lk (listF w l) k = none := fun p l h e =>
    lk_listF_none (fun q hq => by have := (List.pairwise_cons.1 h).1 q hq; omega)
  have hr := bothL_rise a b ha hb
  fun_induction bothL a b with
  | case1 => rfl
  | case2 y b ih =>
    rw [lk_cons_listF w _ _ k (key _ _ hr), ih ha (List.pairwise_cons.1 hb).2 (List.pairwise_cons.1 hr).2, lk, lk]
    by_cases e : y.1 = k
    · simp only [e, if_true]; rfl
    · simp only [e, if_false]
  | case3 x a ih =>
    rw [lk_cons_listF w _ _ k (key _ _ hr), ih (List.pairwise_cons.1 ha).2 hb (List.pairwise_cons.1 hr).2, lk, lk]
    by_cases e : x.1 = k
    · simp only [e, if_true]; rfl
    · simp only [e, if_false]
  | case4 x a y b h ih =>
    rw [lk_cons_listF w _ _ k (key _ _ hr), ih (List.pairwise_cons.1 ha).2 hb (List.pairwise_cons.1 hr).2]
    by_cases e : x.1 = k
    · have e2 : lk (y :: b) k = none := by rw [lk, if_neg (by omega)]; exact rise_lt hb (by omega)
      rw [e2, lk, if_pos e, if_pos (show _ = k from e)]
      simp only [at2, e]
    · rw [if_neg (show ¬ _ = k from e)]
      conv => rhs; rw [lk, if_neg e]
  | case5 x a y b h h' ih =>
    rw [lk_cons_listF w _ _ k (key _ _ hr), ih ha (List.pairwise_cons.1 hb).2 (List.pairwise_cons.1 hr).2]
    by_cases e : y.1 = k
    · have e2 : lk (x :: a) k = none := by rw [lk, if_neg (by omega)]; exact rise_lt ha (by omega)
      rw [e2, lk, if_pos e, if_pos (show _ = k from e)]
      simp only [at2, e]
    · rw [if_neg (show ¬ _ = k from e)]
      conv => rhs; rw [show lk (y :: b) k = lk b k by rw [lk, if_neg e]]
  | case6 x a y b h h' ih =>
    rw [lk_cons_listF w _ _ k (key _ _ hr), ih (List.pairwise_cons.1 ha).2 (List.pairwise_cons.1 hb).2 (List.pairwise_cons.1 hr).2]
    by_cases e : x.1 = k
    · have e3 : y.1 = k := by omega
      rw [show lk (x :: a) k = some x.2 by rw [lk, if_pos e], show lk (y :: b) k = some y.2 by rw [lk, if_pos e3], if_pos (show _ = k from e)]
      simp only [at2, e]
    · have e3 : ¬ y.1 = k := by omega
      rw [if_neg (show ¬ _ = k from e), show lk (x :: a) k = lk a k by rw [lk, if_neg e], show lk (y :: b) k = lk b k by rw [lk, if_neg e3]]

/-- What is kept behind a change; what is unlike. -/
def behindF (p : Pr) : Option Nat := if (if p.ins = true then p.snd else p.fst) = 0 then none else some (if p.ins = true then p.snd else p.fst)
def unlikeF (p : Pr) : Option Nat := if p.fst = p.snd then none else some p.snd
def mergeL (a p : List Sl) : List Sl := listF behindF (bothL a p)
def diffL (a b : List Sl) : List Sl := listF unlikeF (bothL a b)
theorem listF_len (w : Pr → Option Nat) (l : List Pr) : (listF w l).length ≤ l.length := List.length_filterMap_le _ _
theorem mergeL_kept {a p : List Sl} (ha : Rise a) (hp : Rise p) : Kept (mergeL a p) := by
  refine ⟨listF_rise (bothL_rise a p ha hp), fun x hx => ?_⟩
  unfold mergeL listF at hx
  obtain ⟨q, _, e⟩ := List.mem_filterMap.1 hx
  simp [behindF] at e
  obtain ⟨v, ⟨h1, h2⟩, rfl⟩ := e
  show v ≠ 0
  rw [← h2]; exact h1
theorem lk_merge {a p : List Sl} (ha : Kept a) (hp : Rise p) (k : Nat) : look (mergeL a p) k = match lk p k with | some v => v | none => look a k := by
  unfold look mergeL
  rw [lk_both _ _ _ ha.1 hp]
  rcases h1 : lk a k with _ | v <;> rcases h2 : lk p k with _ | u <;> simp [at2, behindF]
  · split <;> simp_all
  · split <;> simp_all
  · split <;> simp_all
theorem diffL_rise {a b : List Sl} (ha : Rise a) (hb : Rise b) : Rise (diffL a b) := listF_rise (bothL_rise a b ha hb)
theorem lk_diff {a b : List Sl} (ha : Kept a) (hb : Kept b) (k : Nat) : lk (diffL a b) k = if look a k = look b k then none else some (look b k) := by
  unfold look diffL
  rw [lk_both _ _ _ ha.1 hb.1]
  rcases h1 : lk a k with _ | v <;> rcases h2 : lk b k with _ | u <;> simp [at2, unlikeF]
theorem merge_diff {a b : List Sl} (ha : Kept a) (hb : Kept b) : mergeL a (diffL a b) = b := by
  refine kept_ext (mergeL_kept ha.1 (diffL_rise ha.1 hb.1)) hb (fun k => ?_)
  rw [lk_merge ha (diffL_rise ha.1 hb.1), lk_diff ha hb]
  split
  · rename_i v h
    split at h
    · cases h
    · injection h with h; exact h.symm
  · rename_i h
    split at h
    · assumption
    · cases h
theorem diff_self {a : List Sl} (ha : Kept a) : diffL a a = [] := by
  have h := lk_ext (diffL_rise ha.1 ha.1) (b := []) List.Pairwise.nil (fun k => by rw [lk_diff ha ha, if_pos rfl]; rfl)
  exact h
end Go.Proofs.Ytcannohmbaaceaa
