/- States behind changes, as plain data: what Do tells undoes it. Conditions: none. -/
import Derived.Test.YtkicmbdjihjgfaaGreatDoorG20
import Derived.Test.YtkicmbdjihjgfaaGreatDoorG18
import Derived.Test.YtkicmbdjihjgfaaGreatDoorG19
import Derived.Test.YtkicmbdjihjgfaaGreatDoorG04
import Derived.Test.YtkicmbdjihjgfaaGreatDoorG09
set_option maxRecDepth 100000
set_option maxHeartbeats 16000000
open List (setIfInBounds_toArray set_cons_succ set_cons_zero)
namespace Go.Proofs.YtkicmbdjihjgfaaGreatDoor
open Go Go.RowKit
theorem rightB_none0 : rightB' [] = true := (rightB_iff' []).2 ⟨by simp, by unfold Rise; simp, by simp⟩
theorem rightS_nil0 : rightS [] = true := by unfold rightS upsB; simp [Ups]
theorem may_ac0 (n b : Nat) (z : Int) (l : List Sl) (h : rightB' l = true) (h1 : 0 ≤ z) (h2 : z ≤ 9007199254740992) : mayB ⟨n, b, z, ⟨#[]⟩, l⟩ = true := by
 have : (⟨#[]⟩ : ByteArray).size ≤ 24576 := by decide
 unfold mayB
 simp only [h, decide_eq_true h1, decide_eq_true h2, decide_eq_true this, Bool.and_self]
theorem empty_zero0 (n : Nat) : emptyB ⟨n, 0, 0, ⟨#[]⟩, []⟩ = true := by unfold emptyB; rfl
theorem do_parts {l : List Ac} {c : Ch} (h : doE l c = 0) : rightS l = true ∧ chgE (findA l c.at_) c = 0 ∧ mayB (chgX (findA l c.at_) c) = true ∧ (putA l (chgX (findA l c.at_) c)).length ≤ 200 ∧ doL l c = putA l (chgX (findA l c.at_) c) ∧ doU l c = chgU (findA l c.at_) c := by
 have hl : doL l c = putA l (chgX (findA l c.at_) c) := by unfold doL; rw [if_pos h]
 have hu : doU l c = chgU (findA l c.at_) c := by unfold doU; rw [if_pos h]
 unfold doE at h
 split at h
 ·exact absurd h (by decide)
 rename_i h1
 split at h
 ·rename_i h2; exact absurd h h2
 rename_i h2
 split at h
 ·exact absurd h (by decide)
 rename_i h3
 split at h
 ·rename_i h4
  exact ⟨by simpa using h1, by simpa using h2, by simpa using h3, h4, hl, hu⟩
 ·exact absurd h (by decide)
theorem chg_kind {x : Ac} {c : Ch} (h : chgE x c = 0) : c.kind = 1 ∨ c.kind = 2 ∨ c.kind = 3 ∨ c.kind = 4 := by
 unfold chgE at h
 split at h
 ·rename_i h1; exact .inl h1
 split at h
 ·rename_i h1; exact .inr (.inl h1)
 split at h
 ·rename_i h1; exact .inr (.inr (.inl h1))
 split at h
 ·rename_i h1; exact .inr (.inr (.inr h1))
 ·exact absurd h (by decide)
theorem rightS_iff (l : List Ac) : rightS l = true ↔ l.length ≤ 200 ∧ Ups l ∧ ∀ x ∈ l, strayB x = false := by
 unfold rightS
 rw [Bool.and_eq_true, Bool.and_eq_true, decide_eq_true_eq, upsB_iff, List.all_eq_true]
 simp
theorem putA_ups {l : List Ac} (hu : Ups l) (x : Ac) : Ups (putA l x) := by
 unfold putA Ups
 rw [List.append_assoc, List.pairwise_append]
 refine ⟨hu.filter _, ?_, ?_⟩
 ·rw [List.pairwise_append]
  refine ⟨by split <;> simp, hu.filter _, ?_⟩
  intro a ha b hb
  split at ha
  ·cases ha
  ·simp at ha
   subst ha
   have := (List.mem_filter.1 hb).2
   simpa using this
 ·intro a ha b hb
  have h1 := (List.mem_filter.1 ha).2
  simp at h1
  rcases List.mem_append.1 hb with h | h
  ·split at h
   ·cases h
   ·simp at h
    subst h
    exact h1
  ·have h2 := (List.mem_filter.1 h).2
   simp at h2
   omega
theorem putA_grow (l : List Ac) (x : Ac) : (putA l x).length ≤ l.length + 1 := by
 have key : ∀ l : List Ac, (l.filter (fun y => decide (y.at_ < x.at_))).length + (l.filter (fun y => decide (x.at_ < y.at_))).length ≤ l.length := by
  intro l
  induction l with
  | nil => simp
  | cons z r ih =>
   rw [List.filter_cons, List.filter_cons]
   split
   ·rename_i h
    rw [if_neg (by simp at h ⊢; omega)]
    simp only [List.length_cons]
    omega
   ·split
    ·simp only [List.length_cons]
     omega
    ·simp only [List.length_cons]
     omega
 have := key l
 unfold putA
 simp only [List.length_append]
 split
 ·simp only [List.length_nil]; omega
 ·simp only [List.length_singleton]; omega
theorem right_put {l : List Ac} {x : Ac} (h : rightS l = true) (hm : mayB x = true) (hl : (putA l x).length ≤ 200) : rightS (putA l x) = true := by
 obtain ⟨_, hu, hs⟩ := (rightS_iff l).1 h
 refine (rightS_iff _).2 ⟨hl, putA_ups hu x, fun y hy => ?_⟩
 unfold putA at hy
 rcases List.mem_append.1 hy with hy | hy
 ·rcases List.mem_append.1 hy with hy | hy
  ·exact hs y (List.mem_filter.1 hy).1
  ·split at hy
   ·cases hy
   ·rename_i he
    simp at hy
    subst hy
    unfold strayB
    rw [hm, show emptyB y = false by simpa using he]
    rfl
 ·exact hs y (List.mem_filter.1 hy).1
theorem empty_is {x : Ac} (h : emptyB x = true) : x = ⟨x.at_, 0, 0, ⟨#[]⟩, []⟩ := by
 unfold emptyB at h
 simp only [Bool.and_eq_true, decide_eq_true_eq] at h
 obtain ⟨h1, h2, h3, h4⟩ := h
 obtain ⟨a, b, n, c, s⟩ := x
 simp only at h1 h2 h3 h4
 subst h1 h2
 have hc : c = ⟨#[]⟩ := by
  obtain ⟨⟨d⟩⟩ := c
  congr 2
  exact List.eq_nil_of_length_eq_zero h3
 subst hc
 rw [List.eq_nil_of_length_eq_zero h4]
theorem findA_at (l : List Ac) (t : Nat) : (findA l t).at_ = t := by
 unfold findA
 cases h : l.find? (fun x => decide (x.at_ = t)) with
 | none => rfl
 | some x => simpa using List.find?_some h
theorem find_put (l : List Ac) (x : Ac) : findA (putA l x) x.at_ = x := by
 unfold findA putA
 have h1 : (l.filter (fun y => decide (y.at_ < x.at_))).find? (fun y => decide (y.at_ = x.at_)) = none := by
  rw [List.find?_eq_none]
  intro y hy
  have := (List.mem_filter.1 hy).2
  simp at this ⊢
  omega
 have h2 : (l.filter (fun y => decide (x.at_ < y.at_))).find? (fun y => decide (y.at_ = x.at_)) = none := by
  rw [List.find?_eq_none]
  intro y hy
  have := (List.mem_filter.1 hy).2
  simp at this ⊢
  omega
 rw [List.find?_append, List.find?_append, h1, h2]
 split
 ·rename_i h
  simpa using (empty_is h).symm
 ·simp
theorem put_put (l : List Ac) {x y : Ac} (h : x.at_ = y.at_) : putA (putA l x) y = putA l y := by
 have e1 : (putA l x).filter (fun z => decide (z.at_ < y.at_)) = l.filter (fun z => decide (z.at_ < y.at_)) := by
  unfold putA
  rw [List.filter_append, List.filter_append, List.filter_filter, List.filter_filter]
  have a : (if emptyB x = true then ([] : List Ac) else [x]).filter (fun z => decide (z.at_ < y.at_)) = [] := by
   split
   ·rfl
   ·rw [List.filter_cons_of_neg (by simp; omega)]; rfl
  have b : l.filter (fun z => decide (z.at_ < y.at_) && decide (x.at_ < z.at_)) = [] := by
   rw [List.filter_eq_nil_iff]
   intro z _
   simp
   omega
  rw [a, b, List.append_nil, List.append_nil]
  refine List.filter_congr fun z _ => ?_
  rw [h]
  simp
 have e2 : (putA l x).filter (fun z => decide (y.at_ < z.at_)) = l.filter (fun z => decide (y.at_ < z.at_)) := by
  unfold putA
  rw [List.filter_append, List.filter_append, List.filter_filter, List.filter_filter]
  have a : (if emptyB x = true then ([] : List Ac) else [x]).filter (fun z => decide (y.at_ < z.at_)) = [] := by
   split
   ·rfl
   ·rw [List.filter_cons_of_neg (by simp; omega)]; rfl
  have b : l.filter (fun z => decide (y.at_ < z.at_) && decide (z.at_ < x.at_)) = [] := by
   rw [List.filter_eq_nil_iff]
   intro z _
   simp
   omega
  rw [a, b, List.nil_append, List.nil_append]
  refine List.filter_congr fun z _ => ?_
  rw [h]
  simp
 rw [show putA (putA l x) y = (putA l x).filter (fun z => decide (z.at_ < y.at_)) ++ (if emptyB y = true then [] else [y]) ++ (putA l x).filter (fun z => decide (y.at_ < z.at_)) from rfl, e1, e2]
 rfl
theorem split3 {l : List Ac} (hu : Ups l) (t : Nat) : l = l.filter (fun z => decide (z.at_ < t)) ++ (l.find? (fun z => decide (z.at_ = t))).toList ++ l.filter (fun z => decide (t < z.at_)) := by
 induction l with
 | nil => rfl
 | cons z r ih =>
  obtain ⟨hz, hr⟩ := List.pairwise_cons.1 hu
  have ih := ih hr
  have hno : z.at_ ≥ t → r.filter (fun y => decide (y.at_ < t)) = [] ∧ r.find? (fun y => decide (y.at_ = t)) = none ∧ r.filter (fun y => decide (t < y.at_)) = r := fun h =>
   ⟨by rw [List.filter_eq_nil_iff]; intro y hy; have := hz y hy; simp; omega, by rw [List.find?_eq_none]; intro y hy; have := hz y hy; simp; omega, by rw [List.filter_eq_self]; intro y hy; have := hz y hy; simp; omega⟩
  rcases Nat.lt_trichotomy z.at_ t with h | h | h
  ·rw [List.filter_cons_of_pos (by simpa using h), List.find?_cons_of_neg (by simp; omega), List.filter_cons_of_neg (by simp; omega)]
   rw [List.cons_append, List.cons_append, ← ih]
  ·obtain ⟨a, b, c⟩ := hno (by omega)
   rw [List.filter_cons_of_neg (by simp; omega), List.find?_cons_of_pos (by simpa using h), List.filter_cons_of_neg (by simp; omega), a, c]
   rfl
  ·obtain ⟨a, b, c⟩ := hno (by omega)
   rw [List.filter_cons_of_neg (by simp; omega), List.find?_cons_of_neg (by simp; omega), List.filter_cons_of_pos (by simpa using h), a, b, c]
   rfl
theorem put_find {l : List Ac} (hr : rightS l = true) (t : Nat) : putA l (findA l t) = l := by
 obtain ⟨_, hu, hs⟩ := (rightS_iff l).1 hr
 have e := split3 hu t
 unfold putA
 rw [findA_at]
 cases h : l.find? (fun x => decide (x.at_ = t)) with
 | none =>
  rw [h] at e
  have : findA l t = ⟨t, 0, 0, ⟨#[]⟩, []⟩ := by unfold findA; rw [h]; rfl
  rw [this, if_pos (empty_zero0 t)]
  exact e.symm
 | some x =>
  rw [h] at e
  have hx : findA l t = x := by unfold findA; rw [h]; rfl
  have hm := List.mem_of_find?_eq_some h
  have hst := hs x hm
  have he : emptyB x = false := by
   unfold strayB at hst
   rw [Bool.or_eq_false_iff] at hst
   exact hst.1
  rw [hx, if_neg (by rw [he]; decide)]
  exact e.symm
theorem right_may {l : List Ac} (hr : rightS l = true) (t : Nat) : mayB (findA l t) = true := by
 obtain ⟨_, hu, hs⟩ := (rightS_iff l).1 hr
 unfold findA
 cases h : l.find? (fun x => decide (x.at_ = t)) with
 | none => exact may_ac0 _ _ _ _ rightB_none0 (by decide) (by decide)
 | some x =>
  have := hs x (List.mem_of_find?_eq_some h)
  unfold strayB at this
  rw [Bool.or_eq_false_iff] at this
  simpa using this.2
theorem may_slots {x : Ac} (h : mayB x = true) : rightB' x.slots = true := by
 unfold mayB at h
 simp only [Bool.and_eq_true] at h
 exact h.2.2.2
theorem chgX_at (x : Ac) (c : Ch) : (chgX x c).at_ = x.at_ := by
 unfold chgX
 repeat' split
 all_goals rfl
theorem chgU_at (x : Ac) (c : Ch) : (chgU x c).at_ = c.at_ := by
 unfold chgU
 repeat' split
 all_goals rfl
def reC (c : Ch) : Ch := if c.kind = 1 then { chgB c with val := c.val } else if c.kind = 2 then { chgB c with non := c.non } else if c.kind = 3 then { chgB c with code := c.code } else if c.kind = 4 then { chgB c with key := c.key, val := c.val } else chgB c
theorem rise_one (x : Sl) : Rise [x] := by unfold Rise; simp
theorem merge_back {s : List Sl} (hk : Kept s) (k v : Nat) : mergeL (mergeL s [(k, v)]) [(k, look s k)] = s ∧ look (mergeL s [(k, v)]) k = v := by
 have h1 := mergeL_kept (p := [(k, v)]) hk.1 (rise_one _)
 refine ⟨kept_ext (mergeL_kept h1.1 (rise_one _)) hk fun q => ?_, ?_⟩
 ·rw [show mergeL (mergeL s [(k, v)]) [(k, look s k)] = putL (putL s (k, v)) (k, look s k) from rfl, look_putL (show Kept (putL s (k, v)) from h1), look_putL hk]
  split
  ·rename_i h; simp only at h; subst h; rfl
  ·rfl
 ·rw [show mergeL s [(k, v)] = putL s (k, v) from rfl, look_putL hk, if_pos rfl]
theorem chg_back {x : Ac} {c : Ch} (hm : mayB x = true) (hm' : mayB (chgX x c) = true) (he : chgE x c = 0) : chgX (chgX x c) (chgU x c) = x ∧ chgE (chgX x c) (chgU x c) = 0 ∧ chgU (chgX x c) (chgU x c) = reC c := by
 rcases chg_kind he with h | h | h | h
 ·have e1 : chgX x c = { x with bal := c.val } := by unfold chgX; rw [if_pos h]
  have e2 : chgU x c = { chgB c with val := x.bal } := by unfold chgU; rw [if_pos h]
  have hk : ({ chgB c with val := x.bal } : Ch).kind = 1 := h
  rw [e1, e2]
  refine ⟨by unfold chgX; rw [if_pos hk], by unfold chgE; rw [if_pos hk], ?_⟩
  unfold chgU reC
  rw [if_pos hk, if_pos h]
  rfl
 ·have n1 : ¬ c.kind = 1 := by rw [h]; decide
  have e1 : chgX x c = { x with non := c.non } := by unfold chgX; rw [if_neg n1, if_pos h]
  have e2 : chgU x c = { chgB c with non := x.non } := by unfold chgU; rw [if_neg n1, if_pos h]
  have hk : ({ chgB c with non := x.non } : Ch).kind = 2 := h
  have nk : ¬ ({ chgB c with non := x.non } : Ch).kind = 1 := n1
  rw [e1, e2]
  refine ⟨by unfold chgX; rw [if_neg nk, if_pos hk], by unfold chgE; rw [if_neg nk, if_pos hk], ?_⟩
  unfold chgU reC
  rw [if_neg nk, if_pos hk, if_neg n1, if_pos h]
  rfl
 ·have n1 : ¬ c.kind = 1 := by rw [h]; decide
  have n2 : ¬ c.kind = 2 := by rw [h]; decide
  have e1 : chgX x c = { x with code := c.code } := by unfold chgX; rw [if_neg n1, if_neg n2, if_pos h]
  have e2 : chgU x c = { chgB c with code := x.code } := by unfold chgU; rw [if_neg n1, if_neg n2, if_pos h]
  have hk : ({ chgB c with code := x.code } : Ch).kind = 3 := h
  have nk : ¬ ({ chgB c with code := x.code } : Ch).kind = 1 := n1
  have nk2 : ¬ ({ chgB c with code := x.code } : Ch).kind = 2 := n2
  rw [e1, e2]
  refine ⟨by unfold chgX; rw [if_neg nk, if_neg nk2, if_pos hk], by unfold chgE; rw [if_neg nk, if_neg nk2, if_pos hk], ?_⟩
  unfold chgU reC
  rw [if_neg nk, if_neg nk2, if_pos hk, if_neg n1, if_neg n2, if_pos h]
  rfl
 ·have n1 : ¬ c.kind = 1 := by rw [h]; decide
  have n2 : ¬ c.kind = 2 := by rw [h]; decide
  have n3 : ¬ c.kind = 3 := by rw [h]; decide
  have hp : rightB' x.slots = true ∧ (mergeL x.slots [(c.key, c.val)]).length ≤ 1000 := by
   unfold chgE at he
   rw [if_neg n1, if_neg n2, if_neg n3, if_pos h] at he
   split at he
   ·rename_i h1
    split at he
    ·rename_i h2; exact ⟨h1, h2⟩
    ·exact absurd he (by decide)
   ·exact absurd he (by decide)
  have e1 : chgX x c = { x with slots := mergeL x.slots [(c.key, c.val)] } := by unfold chgX; rw [if_neg n1, if_neg n2, if_neg n3, if_pos h, if_pos hp.1, if_pos hp.2]
  have e2 : chgU x c = { ({ chgB c with key := c.key } : Ch) with val := look x.slots c.key } := by unfold chgU; rw [if_neg n1, if_neg n2, if_neg n3, if_pos h]
  rw [e1] at hm'
  have hr' := may_slots hm'
  simp only at hr'
  have hk0 := ((rightB_iff' _).1 hp.1)
  obtain ⟨mb1, mb2⟩ := merge_back hk0.2 c.key c.val
  have hk : ({ ({ chgB c with key := c.key } : Ch) with val := look x.slots c.key } : Ch).kind = 4 := h
  have m1 : ¬ ({ ({ chgB c with key := c.key } : Ch) with val := look x.slots c.key } : Ch).kind = 1 := n1
  have m2 : ¬ ({ ({ chgB c with key := c.key } : Ch) with val := look x.slots c.key } : Ch).kind = 2 := n2
  have m3 : ¬ ({ ({ chgB c with key := c.key } : Ch) with val := look x.slots c.key } : Ch).kind = 3 := n3
  rw [e1, e2]
  refine ⟨?_, ?_, ?_⟩
  ·unfold chgX
   rw [if_neg m1, if_neg m2, if_neg m3, if_pos hk]
   simp only
   rw [if_pos hr', mb1, if_pos hk0.1]
  ·unfold chgE
   rw [if_neg m1, if_neg m2, if_neg m3, if_pos hk]
   simp only
   rw [if_pos hr', mb1, if_pos hk0.1]
  ·unfold chgU reC
   rw [if_neg m1, if_neg m2, if_neg m3, if_pos hk, if_neg n1, if_neg n2, if_neg n3, if_pos h]
   simp only
   rw [mb2]
   rfl
theorem do_back {l : List Ac} {c : Ch} (h : doE l c = 0) : rightS (doL l c) = true ∧ doE (doL l c) (doU l c) = 0 ∧ doL (doL l c) (doU l c) = l ∧ doU (doL l c) (doU l c) = reC c := by
 obtain ⟨hr, hce, hmay, hput, hdl, hdu⟩ := do_parts h
 rw [hdl, hdu]
 have hrt := right_put hr hmay hput
 have hmx := right_may hr c.at_
 obtain ⟨b1, b2, b3⟩ := chg_back hmx hmay hce
 have hat : (chgX (findA l c.at_) c).at_ = c.at_ := by rw [chgX_at, findA_at]
 have hf : findA (putA l (chgX (findA l c.at_) c)) (chgU (findA l c.at_) c).at_ = chgX (findA l c.at_) c := by
  rw [chgU_at]
  have := find_put l (chgX (findA l c.at_) c)
  rwa [hat] at this
 have hp : putA (putA l (chgX (findA l c.at_) c)) (findA l c.at_) = l := by
  rw [put_put l (by rw [hat, findA_at]), put_find hr]
 have hl := ((rightS_iff l).1 hr).1
 have he : doE (putA l (chgX (findA l c.at_) c)) (chgU (findA l c.at_) c) = 0 := by
  unfold doE
  rw [if_neg (by rw [hrt]; decide), hf, b1, b2, if_neg (by decide), if_neg (by rw [hmx]; decide), hp, if_pos hl]
 refine ⟨hrt, he, ?_, ?_⟩
 ·unfold doL
  rw [if_pos he, hf, b1, hp]
 ·unfold doU
  rw [if_pos he, hf, b3]
structure StI (j : Nat) (l : List Ac) : Prop where
 right : rightS l = true
 len : l.length ≤ j
 slots : ∀ x ∈ l, x.slots.length ≤ j
theorem StI.nil : StI 0 [] := ⟨rightS_nil0, by simp, fun x hx => by cases hx⟩
theorem chN_ok (a b c d : Int) : ChOk (chN a b c d) := by
 have h := pickN_range b 9 (by decide)
 have h1 := pickN_range c 1000 (by decide)
 have h2 := pickN_range c 4 (by decide)
 have h3 := pickN_range c 5 (by decide)
 have h4 := pickN_range d 3 (by decide)
 have hz : W256 0 := by unfold W256; decide
 have hi : I64 0 := by unfold I64; decide
 have hc : (⟨#[]⟩ : ByteArray).size ≤ 140737488355328 := by decide
 unfold chN
 split
 ·exact ⟨(show I64 1 by unfold I64; decide), adrN_lt h.2, hz, by show W256 (pickN c 1000).toNat; unfold W256; omega, hi, hc⟩
 split
 ·exact ⟨(show I64 2 by unfold I64; decide), adrN_lt h.2, hz, hz, by show I64 (pickN c 4); unfold I64; omega, hc⟩
 split
 ·refine ⟨(show I64 3 by unfold I64; decide), adrN_lt h.2, hz, hz, hi, ?_⟩
  show (codeN (pickN c 4)).size ≤ 140737488355328
  unfold codeN
  split
  ·decide
  split
  ·decide
  split
  ·decide
  ·decide
 ·exact ⟨(show I64 4 by unfold I64; decide), adrN_lt h.2, by show W256 (pickN c 5).toNat; unfold W256; omega, by show W256 (pickN d 3).toNat; unfold W256; omega, hi, hc⟩
theorem chN_re (a b c d : Int) : reC (chN a b c d) = chN a b c d := by
 unfold chN reC
 split
 ·rw [if_pos rfl]; rfl
 split
 ·rw [if_neg (show ¬ (2 : Int) = 1 by decide), if_pos rfl]; rfl
 split
 ·rw [if_neg (show ¬ (3 : Int) = 1 by decide), if_neg (show ¬ (3 : Int) = 2 by decide), if_pos rfl]; rfl
 ·rw [if_neg (show ¬ (4 : Int) = 1 by decide), if_neg (show ¬ (4 : Int) = 2 by decide), if_neg (show ¬ (4 : Int) = 3 by decide), if_pos rfl]; rfl
theorem merge_grow (s : List Sl) (x : Sl) : (mergeL s [x]).length ≤ s.length + 1 := by
 have h1 := listF_len behindF (bothL s [x])
 have h2 := bothL_len s [x]
 simp at h2
 unfold mergeL
 omega
theorem find_slots {l : List Ac} {j : Nat} (h : ∀ x ∈ l, x.slots.length ≤ j) (t : Nat) : (findA l t).slots.length ≤ j := by
 unfold findA
 cases hf : l.find? (fun x => decide (x.at_ = t)) with
 | none => exact Nat.zero_le _
 | some x => exact h x (List.mem_of_find?_eq_some hf)
theorem may_with {x : Ac} (h : mayB x = true) : 0 ≤ x.non ∧ x.non ≤ 9007199254740992 ∧ x.code.size ≤ 24576 ∧ rightB' x.slots = true := by
 unfold mayB at h
 simp only [Bool.and_eq_true, decide_eq_true_eq] at h
 exact h
theorem may_of' {x : Ac} (h1 : 0 ≤ x.non) (h2 : x.non ≤ 9007199254740992) (h3 : x.code.size ≤ 24576) (h4 : rightB' x.slots = true) : mayB x = true := by
 unfold mayB
 rw [decide_eq_true h1, decide_eq_true h2, decide_eq_true h3, h4]
 rfl
theorem chN_good {x : Ac} (hm : mayB x = true) {j : Nat} (hj : j ≤ 900) (hs : x.slots.length ≤ j) (a b c d : Int) : chgE x (chN a b c d) = 0 ∧ mayB (chgX x (chN a b c d)) = true ∧ (chgX x (chN a b c d)).slots.length ≤ j + 1 := by
 obtain ⟨m1, m2, m3, m4⟩ := may_with hm
 have h2 := pickN_range c 4 (by decide)
 unfold chN
 split
 ·exact ⟨rfl, may_of' m1 m2 m3 m4, Nat.le_succ_of_le hs⟩
 split
 ·exact ⟨rfl, may_of' (x := { x with non := pickN c 4 }) (by show 0 ≤ pickN c 4; omega) (by show pickN c 4 ≤ _; omega) m3 m4, Nat.le_succ_of_le hs⟩
 split
 ·refine ⟨rfl, may_of' (x := { x with code := codeN (pickN c 4) }) m1 m2 ?_ m4, Nat.le_succ_of_le hs⟩
  show (codeN (pickN c 4)).size ≤ 24576
  unfold codeN
  split
  ·decide
  split
  ·decide
  split
  ·decide
  ·decide
 ·generalize hk : (pickN c 5).toNat = k
  generalize hv : (pickN d 3).toNat = v
  have hg := merge_grow x.slots (k, v)
  have hlen : (mergeL x.slots [(k, v)]).length ≤ 1000 := by omega
  have hkp := ((rightB_iff' _).1 m4).2
  have hr : rightB' (mergeL x.slots [(k, v)]) = true := (rightB_iff' _).2 ⟨by omega, mergeL_kept hkp.1 (rise_one _)⟩
  have hX : chgX x ⟨4, adrN (pickN b 9), k, v, 0, ⟨#[]⟩⟩ = { x with slots := mergeL x.slots [(k, v)] } := by
   unfold chgX
   rw [if_neg (show ¬ (4 : Int) = 1 by decide), if_neg (show ¬ (4 : Int) = 2 by decide), if_neg (show ¬ (4 : Int) = 3 by decide), if_pos rfl, if_pos m4, if_pos hlen]
  rw [hX]
  refine ⟨?_, may_of' m1 m2 m3 hr, by show (mergeL x.slots [(k, v)]).length ≤ _; omega⟩
  unfold chgE
  rw [if_neg (show ¬ (4 : Int) = 1 by decide), if_neg (show ¬ (4 : Int) = 2 by decide), if_neg (show ¬ (4 : Int) = 3 by decide), if_pos rfl, if_pos m4, if_pos hlen]
theorem StI.do {j : Nat} {l : List Ac} (h : StI j l) (hj : j ≤ 150) (a b c d : Int) : doE l (chN a b c d) = 0 ∧ StI (j + 1) (doL l (chN a b c d)) := by
 obtain ⟨g1, g2, g3⟩ := chN_good (right_may h.right (chN a b c d).at_) (by omega) (find_slots h.slots _) a b c d
 have hp := putA_grow l (chgX (findA l (chN a b c d).at_) (chN a b c d))
 have hl := h.len
 have he : doE l (chN a b c d) = 0 := by
  unfold doE
  rw [if_neg (by rw [h.right]; decide), if_neg (by rw [g1]; decide), if_neg (by rw [g2]; decide), if_pos (by omega)]
 refine ⟨he, (do_back he).1, ?_, ?_⟩
 ·rw [(do_parts he).2.2.2.2.1]
  omega
 ·rw [(do_parts he).2.2.2.2.1]
  intro x hx
  rcases mem_putA hx with hx | rfl
  ·have := h.slots x hx
   omega
  ·exact g3
abbrev Q4 := Nat → Int
noncomputable def stepS (s : List Ac) (z : Q4) : List Ac := doL s (chN (z 0) (z 1) (z 2) (z 3))
noncomputable def stN (zs : List Q4) : List Ac := (zs.take 30).foldl stepS []
theorem stepS_inv (zs : List Q4) : ∀ (l : List Ac) (j : Nat), StI j l → j + zs.length ≤ 150 → StI (j + zs.length) (zs.foldl stepS l) := by
 induction zs with
 | nil => intro l j h _; exact h
 | cons z r ih =>
  intro l j h hl
  simp only [List.length_cons] at hl
  rw [List.foldl_cons, List.length_cons, show j + (r.length + 1) = (j + 1) + r.length by omega]
  exact ih _ _ (h.do (by omega) (z 0) (z 1) (z 2) (z 3)).2 (by omega)
theorem stN_inv (zs : List Q4) : StI 30 (stN zs) := by
 have hl : (zs.take 30).length ≤ 30 := List.length_take_le _ _
 have h := stepS_inv (zs.take 30) [] 0 StI.nil (by omega)
 exact ⟨h.right, by have := h.len; unfold stN; omega, fun x hx => by have := h.slots x hx; omega⟩
end Go.Proofs.YtkicmbdjihjgfaaGreatDoor
namespace Go.Proofs.YtkicmbdjihjgfaaGreatDoor
open Go Go.RowKit
attribute [local go_sem] Oper.semAt_some Grows wide_fn
theorem KeepS.cell {w : World} {sv : Value} {l : List Sl} (h : KeepS w sv l) {B : Nat} {t : TypeId} {cs : Array Value} (hB : Has w B t cs) (ht : t ≠ 63) (k : Nat) (u : Value) : KeepS (w.setCell ⟨B, k, none⟩ u) sv l := by
 obtain ⟨lo, h⟩ := h
 exact ⟨lo, h.keep fun b c _ hb => (Below.heap_setCell w ⟨B, k, none⟩ u b (fun e => by
  subst e
  have := hB.symm.trans hb
  injection this with this
  injection this with _ this _
  exact absurd this ht)).trans hb⟩
theorem refDo_good (W : World) (sv : Value) (l : List Ac) (hs : StAt W sv l) (hsl : ∀ y ∈ l, y.slots.length ≤ 100000) (c : Ch) (hc : ChOk c) (hdo : doE l c = 0) :
  Calls Tryz.prog 24 #[sv, .agg (chC c)] W fun e w' => ∃ v, e = .returned (.tuple #[v, .agg (chC (doU l c)), .int .i64 0]) ∧ StK w' v (doL l c) ∧ Below W.heap.size W w' := by
 have hmx : Tryz.prog.follows .mixedOrders = true := by kernel_rfl
 obtain ⟨hr, hce, hmay, hput, hdl, hdu⟩ := do_parts hdo
 rw [hdl, hdu]
 clear hdl hdu hdo
 obtain ⟨cc, hcc⟩ : ∃ cc, chC c = cc := ⟨_, rfl⟩
 rw [hcc]
 have h10 := Has.new W 33 cc
 have q1 := (Below.refl W.heap.size W).alloc (Nat.le_refl _) (.cells cc 33)
 obtain ⟨W1, hW1⟩ : ∃ W1, W.alloc (.cells cc 33) = W1 := ⟨_, rfl⟩
 rw [hW1] at h10 q1
 obtain ⟨W2, hW2, h21, q2⟩ := newBox W1 33 #[.int .i64 0, .int .u8 0, .int .u8 0, .int .u8 0, .int .u8 0, .int .u8 0, .int .u8 0, .int .u8 0, .int .u8 0, .int .u8 0, .int .u8 0, .int .u8 0, .int .u8 0, .int .u8 0, .int .u8 0, .int .u8 0, .int .u8 0, .int .u8 0, .int .u8 0, .int .u8 0, .int .u8 0, .int .u64 0, .int .u64 0, .int .u64 0, .int .u64 0, .int .u64 0, .int .u64 0, .int .u64 0, .int .u64 0, .int .i64 0, .string { data := #[] }]
 have HLT := hid (show W.heap.size < W1.heap.size ∧ W1.heap.size < W2.heap.size from ⟨h10.lt, h21.lt⟩)
 have Q2 := hid (q1.trans (q2.mono q1.size))
 have HC := hid (show Has W2 W.heap.size 33 (chC c) by rw [hcc]; exact h10.later q2)
 have HZ := hid h21
 have KR := hid (show Calls Tryz.prog 11 #[sv] W2 (fun e w' => e = .returned (.bool true) ∧ Below W2.heap.size W2 w') from by
  have h := refRight_any8 W2 sv l (hs.later Q2.out)
  rw [hr] at h
  exact h)
 obtain ⟨a, cap, rfl, hnc, hcm⟩ := hs.shape
 have HS := hid (hs.later Q2.out)
 have FI := hid (fun (X : World) (hX : Below W2.heap.size W2 X) => refFind_any8 X _ l ((hs.later Q2.out).later hX) c.at_ hc.at_ hsl)
 have HXO := hid (findA_ok (t := c.at_) (show ∀ x ∈ l, AcOk x from fun x hx => by
  obtain ⟨i, hi⟩ := List.getElem?_of_mem hx
  exact hs.ok hi) hc.at_)
 have HXL := hid (findA_slots hsl c.at_)
 have HR := hid hr
 have HSL := hid hsl
 have HCO := hid hc
 have HMAY := hid hmay
 have HPUT := hid hput
 have HCE := hid hce
 have HKD := hid (chg_kind hce)
 obtain ⟨n, hn⟩ : ∃ n, l.length = n := ⟨_, rfl⟩
 rw [hn] at HS KR FI ⊢
 generalize findA l c.at_ = x at *
 obtain ⟨kd, hkd⟩ : ∃ kd, c.kind = kd := ⟨_, rfl⟩
 have HK := hid hkd
 rw [hkd] at HKD
 have BC := hid (built_ch kd c.at_)
 have ECB := hid (show chC ⟨kd, c.at_, 0, 0, 0, ⟨#[]⟩⟩ = chC (chgB c) from by unfold chgB; rw [hkd])
 rw [ECB.out] at BC
 have c0 : W2.cell? ⟨W.heap.size, 0, none⟩ = some (.int .i64 kd) := by
  have := HC.out.ch.1
  rwa [hkd] at this
 have HC0 := hid c0
 clear h10 q1 h21 q2 hs hnc hcm hsl hr hc hmay hput hce hkd hn hcc c0
 obtain ⟨Post, hPost⟩ : ∃ Post : Ending → World → Prop, (fun (e : Ending) (w' : World) => ∃ v, e = .returned (.tuple #[v, .agg (chC (chgU x c)), .int .i64 0]) ∧ StK w' v (putA l (chgX x c)) ∧ Below W.heap.size W w') = Post := ⟨_, rfl⟩
 have HF := hid (show ∀ w' v u x', chgU x c = u → chgX x c = x' → StK w' v (putA l x') → Below W.heap.size W w' → Post (.returned (.tuple #[v, .agg (chC u), .int .i64 0])) w' from fun w' v u x' e2 e3 h1 h2 => by
  rw [← hPost]
  subst e2 e3
  exact ⟨_, rfl, h1, h2⟩)
 rw [hPost]
 clear hPost
 have hkk : kd = 1 ∨ kd = 2 ∨ kd = 3 ∨ kd = 4 := HKD.out
 have hk1 : ¬ kd < 1 := by omega
 have hk4 : ¬ 4 < kd := by omega
 clear HKD
 replace hkk := hid hkk
 go_enter Tryz.func24, Tryz.ntmps24
 go_wp2_with fail
 clear hW1 hW2
 refine KR.out.mono ?_
 rintro _ w3 ⟨rfl, hb⟩
 have Q3 := hid hb
 have c0 := cell_below Q3.out _ _ HC0.out
 have LAD := (HC.out.later Q3.out).chAdLoad
 have CC := hid (FI.out w3 Q3.out)
 clear hb KR
 go_wp2_with (refine wpList_load_known rfl _ (.tmp 30) rfl _ rfl _ LAD ?_)
 refine CC.out.mono ?_
 rintro _ w4 ⟨sx, rfl, hrow, hwide, hb⟩
 obtain ⟨xa, xc, rfl⟩ := hrow.shape
 have HWD := hid hwide
 have KS4 := hid (show KeepS w4 (.slice xa x.slots.length xc) x.slots from ⟨_, hrow⟩)
 have Q4 := hid (Q3.out.trans (hb.mono Q3.out.size))
 clear hb CC c0 LAD hrow hwide FI
 obtain ⟨V4, hV4, h7, q7⟩ := newBox w4 31 #[.int .u8 0, .int .u8 0, .int .u8 0, .int .u8 0, .int .u8 0, .int .u8 0, .int .u8 0, .int .u8 0, .int .u8 0, .int .u8 0, .int .u8 0, .int .u8 0, .int .u8 0, .int .u8 0, .int .u8 0, .int .u8 0, .int .u8 0, .int .u8 0, .int .u8 0, .int .u8 0, .int .u64 0, .int .u64 0, .int .u64 0, .int .u64 0, .int .i64 0, .string { data := #[] }, .slice none 0 0]
 have hi7 := accRow x (.slice xa x.slots.length xc) rfl
 have k7 : Has (V4.setRow w4.heap.size (acC x (.slice xa x.slots.length xc))) w4.heap.size 31 (acC x (.slice xa x.slots.length xc)) := setRow_heap _ _ _ _ _ _ h7
 have p7 := below_rowAc q7 (g := w4.heap.size) (Nat.le_refl _) (acC x (.slice xa x.slots.length xc))
 obtain ⟨P1, hP1⟩ : ∃ P1, V4.setRow w4.heap.size (acC x (.slice xa x.slots.length xc)) = P1 := ⟨_, rfl⟩
 rw [hP1] at k7 p7
 obtain ⟨V5, hV5, h8, q8⟩ := newBox P1 33 #[.int .i64 0, .int .u8 0, .int .u8 0, .int .u8 0, .int .u8 0, .int .u8 0, .int .u8 0, .int .u8 0, .int .u8 0, .int .u8 0, .int .u8 0, .int .u8 0, .int .u8 0, .int .u8 0, .int .u8 0, .int .u8 0, .int .u8 0, .int .u8 0, .int .u8 0, .int .u8 0, .int .u8 0, .int .u64 0, .int .u64 0, .int .u64 0, .int .u64 0, .int .u64 0, .int .u64 0, .int .u64 0, .int .u64 0, .int .i64 0, .string { data := #[] }]
 have hi8 := chRow (chgB c)
 have k8 : Has (V5.setRow P1.heap.size (chC (chgB c))) P1.heap.size 33 (chC (chgB c)) := setRow_heap _ _ _ _ _ _ h8
 have p8 := below_rowAc q8 (g := P1.heap.size) (Nat.le_refl _) (chC (chgB c))
 obtain ⟨P2, hP2⟩ : ∃ P2, V5.setRow P1.heap.size (chC (chgB c)) = P2 := ⟨_, rfl⟩
 rw [hP2] at k8 p8
 have HD := hid (show W.heap.size < W1.heap.size ∧ W1.heap.size < w4.heap.size ∧ w4.heap.size < P1.heap.size from ⟨HLT.out.1, Nat.lt_of_lt_of_le HLT.out.2 Q4.out.size, k7.lt⟩)
 have Q5 := hid (show Below W2.heap.size W2 P1 from Q4.out.trans (p7.mono Q4.out.size))
 have Q6 := hid (show Below W2.heap.size W2 P2 from Q5.out.trans (p8.mono Q5.out.size))
 have KX := hid (k7.later p8)
 have KC := hid k8
 have KS := hid ((KS4.out.later p7).later p8)
 have c5 := cell_below Q5.out _ _ HC0.out
 have c6 := cell_below Q6.out _ _ HC0.out
 have LAD := (HC.out.later Q5.out).chAdLoad
 have Q4S := hid Q4.out.size
 clear k7 p7 q7 q8 k8 p8 Q3 Q4 KS4
 go_upto_region 12 with (first | (refine wpList_store_row rfl _ (.tmp 7) (.tmp 32) rfl _ _ rfl rfl _ _ h7 hi7.1 hi7.2.1 hi7.2.2 ?_; rw [hP1]) | (refine wpList_load_known rfl _ (.tmp 35) rfl _ rfl _ LAD ?_) | (refine wpList_build_two rfl (.tmp 34) (.tmp 36) rfl _ _ _ BC.out rfl rfl ?_) | (refine wpList_store_row rfl _ (.tmp 8) (.tmp 37) rfl _ _ rfl rfl _ _ h8 hi8.1 hi8.2.1 hi8.2.2 ?_; rw [hP2]))
 clear h7 hi7 hV4 hP1 h8 hi8 hV5 hP2 LAD c5 c6 hk1 hk4
 replace hkk := hkk.out
 rcases hkk with rfl | rfl | rfl | rfl
 ·have EX := hid (show chgX x c = { x with bal := c.val } from by unfold chgX; rw [if_pos HK.out])
  have EU := hid (show chgU x c = { chgB c with val := x.bal } from by unfold chgU; rw [if_pos HK.out])
  obtain ⟨g0, g21, g22, g23, g24, g25, g26, g27, g28, g29, g30⟩ := KC.out.ch
  have z25 := KC.out.frozen 25
  have z26 := KC.out.frozen 26
  have z27 := KC.out.frozen 27
  have z28 := KC.out.frozen 28
  obtain ⟨m20, m21, m22, m23, m24, m25, m26⟩ := KX.out.acc
  clear g0
  go_upto_region 14 with fail
  clear g21 g22 g23 g24 g25 g26 g27 g28 g29 g30 z25 z26 z27 z28 m20 m21 m22 m23 m24 m25 m26
  have hX := (((KX.out.other (p := ⟨P1.heap.size, 25, none⟩) (by have := HD.out; simp; omega) (.int .u64 (lim x.bal 0))).other (p := ⟨P1.heap.size, 26, none⟩) (by have := HD.out; simp; omega) (.int .u64 (lim x.bal 1))).other (p := ⟨P1.heap.size, 27, none⟩) (by have := HD.out; simp; omega) (.int .u64 (lim x.bal 2))).other (p := ⟨P1.heap.size, 28, none⟩) (by have := HD.out; simp; omega) (.int .u64 (lim x.bal 3))
  have hU := KC.out.chVal x.bal
  have hQ := (((Q6.out.setCell (p := ⟨P1.heap.size, 25, none⟩) Q5.out.size (.int .u64 (lim x.bal 0))).setCell (p := ⟨P1.heap.size, 26, none⟩) Q5.out.size (.int .u64 (lim x.bal 1))).setCell (p := ⟨P1.heap.size, 27, none⟩) Q5.out.size (.int .u64 (lim x.bal 2))).setCell (p := ⟨P1.heap.size, 28, none⟩) Q5.out.size (.int .u64 (lim x.bal 3))
  have hK := (((KS.out.cell KC.out (by decide) 25 (.int .u64 (lim x.bal 0))).cell (KC.out.set 25 _) (by decide) 26 (.int .u64 (lim x.bal 1))).cell ((KC.out.set 25 _).set 26 _) (by decide) 27 (.int .u64 (lim x.bal 2))).cell (((KC.out.set 25 _).set 26 _).set 27 _) (by decide) 28 (.int .u64 (lim x.bal 3))
  obtain ⟨P3, hP3⟩ : ∃ P3, (((P2.setCell ⟨P1.heap.size, 25, none⟩ (.int .u64 (lim x.bal 0))).setCell ⟨P1.heap.size, 26, none⟩ (.int .u64 (lim x.bal 1))).setCell ⟨P1.heap.size, 27, none⟩ (.int .u64 (lim x.bal 2))).setCell ⟨P1.heap.size, 28, none⟩ (.int .u64 (lim x.bal 3)) = P3 := ⟨_, rfl⟩
  rw [hP3] at hX hU hQ hK ⊢
  clear hP3
  have KX3 := hid hX
  have KC3 := hid hU
  have Q7 := hid hQ
  have KS3 := hid hK
  clear hX hU hQ hK KX KC KS
  obtain ⟨m0, m21, m22, m23, m24, m25, m26, m27, m28, m29, m30⟩ := (HC.out.later Q7.out).ch
  obtain ⟨g20, g21, g22, g23, g24, g25, g26⟩ := KX3.out.acc
  have z20 := KX3.out.frozen 20
  have z21 := KX3.out.frozen 21
  have z22 := KX3.out.frozen 22
  have z23 := KX3.out.frozen 23
  clear m0
  go_upto_region 21 with fail
  clear m21 m22 m23 m24 m25 m26 m27 m28 m29 m30 g20 g21 g22 g23 g24 g25 g26 z20 z21 z22 z23
  have hX := KX3.out.accBal c.val
  have hU := (((KC3.out.other (p := ⟨w4.heap.size, 20, none⟩) (by have := HD.out; simp; omega) (.int .u64 (lim c.val 0))).other (p := ⟨w4.heap.size, 21, none⟩) (by have := HD.out; simp; omega) (.int .u64 (lim c.val 1))).other (p := ⟨w4.heap.size, 22, none⟩) (by have := HD.out; simp; omega) (.int .u64 (lim c.val 2))).other (p := ⟨w4.heap.size, 23, none⟩) (by have := HD.out; simp; omega) (.int .u64 (lim c.val 3))
  have HW4 := hid (show W2.heap.size ≤ w4.heap.size from Q4S.out)
  have hQ := (((Q7.out.setCell (p := ⟨w4.heap.size, 20, none⟩) HW4.out (.int .u64 (lim c.val 0))).setCell (p := ⟨w4.heap.size, 21, none⟩) HW4.out (.int .u64 (lim c.val 1))).setCell (p := ⟨w4.heap.size, 22, none⟩) HW4.out (.int .u64 (lim c.val 2))).setCell (p := ⟨w4.heap.size, 23, none⟩) HW4.out (.int .u64 (lim c.val 3))
  have hK := (((KS3.out.cell KX3.out (by decide) 20 (.int .u64 (lim c.val 0))).cell (KX3.out.set 20 _) (by decide) 21 (.int .u64 (lim c.val 1))).cell ((KX3.out.set 20 _).set 21 _) (by decide) 22 (.int .u64 (lim c.val 2))).cell (((KX3.out.set 20 _).set 21 _).set 22 _) (by decide) 23 (.int .u64 (lim c.val 3))
  obtain ⟨P4, hP4⟩ : ∃ P4, (((P3.setCell ⟨w4.heap.size, 20, none⟩ (.int .u64 (lim c.val 0))).setCell ⟨w4.heap.size, 21, none⟩ (.int .u64 (lim c.val 1))).setCell ⟨w4.heap.size, 22, none⟩ (.int .u64 (lim c.val 2))).setCell ⟨w4.heap.size, 23, none⟩ (.int .u64 (lim c.val 3)) = P4 := ⟨_, rfl⟩
  rw [hP4] at hX hU hQ hK ⊢
  clear hP4
  have KX4 := hid hX
  have KC4 := hid hU
  have Q7b := hid hQ
  have KS4 := hid hK
  clear hX hU hQ hK KX3 KC3 KS3
  have LXX := KX4.out.accLoad
  have CC := hid (refSet_good P4 (.slice a n cap) l (HS.out.later Q7b.out) HR.out HSL.out ({ x with bal := c.val }) (.slice xa x.slots.length xc) (show AcOk ({ x with bal := c.val }) from by rw [← EX.out]; exact chgX_ok HXO.out HCO.out) (by rw [← EX.out]; exact HMAY.out) (by obtain ⟨lo, h⟩ := KS4.out; exact h.slots (by have := chgX_wide HCO.out HWD.out; rw [EX.out] at this; exact this)) (by have := chgX_slots (c := c) HXL.out; rw [EX.out] at this; exact this) (by rw [← EX.out]; exact HPUT.out))
  go_wp2_with (refine wpList_load_known rfl _ (.tmp 7) rfl _ rfl _ LXX ?_)
  refine CC.out.mono ?_
  rintro _ w8 ⟨v8, rfl, hst, hb⟩
  have Q8 := hid (Q7b.out.trans (hb.mono Q7b.out.size))
  have KC8 := hid (KC4.out.later hb)
  have ST8 := hid hst
  clear hb CC LXX hst KX4 KC4 KS4
  have LC := hid (show ∀ z : World, Grows w8 z → (loadVar 33 ⟨P1.heap.size, 0, none⟩).run Tryz.prog z = .ok (.agg (chC ({ chgB c with val := x.bal }))) z from fun z hz => by obtain ⟨q, rfl⟩ := hz; exact (KC8.out.later q.below).chLoad)
  go_wp2_with fail
  refine wp_region_mix (C := Grows w8) [some false, some true, some false, none, none] hmx (by kernel_rfl) (by kernel_rfl) (grows_refl w8) ?_
  simp only [headOf, tailOf]
  repeat (first | (with_reducible refine wpQuiet_load rfl 33 _ rfl _ rfl _ LC.out ?_; simp only [Act.put, setIfInBounds_toArray, set_cons_succ, set_cons_zero]) | (go_big_quiet_step (fail)))
  refine wpQuiet_nil ?_
  rintro _ ⟨z, rfl⟩
  have hz9 := (HZ.out.later Q8.out).later z.below
  have hi9 := chRow ({ chgB c with val := x.bal })
  have Q9 := hid (below_rowAc ((Q2.out.trans (Q8.out.mono Q2.out.size)).trans (z.below.mono (Nat.le_trans Q2.out.size Q8.out.size))) (g := W1.heap.size) (Nat.le_of_lt HLT.out.1) (chC ({ chgB c with val := x.bal })))
  have hB9 : Has (z.w.setRow W1.heap.size (chC ({ chgB c with val := x.bal }))) W1.heap.size 33 (chC ({ chgB c with val := x.bal })) := setRow_heap _ _ _ _ _ _ hz9
  have ST9 := hid ((ST8.out.later z.below).row hz9 (by decide) (chC ({ chgB c with val := x.bal })))
  clear LC
  go_wp2_with (refine wpList_store_row rfl _ (.tmp 5) (.tmp 104) rfl _ _ rfl rfl _ _ hz9 hi9.1 hi9.2.1 hi9.2.2 ?_)
  rw [calmPost_normal]
  go_wp2
  refine bodyPost_ret (results_three rfl rfl rfl rfl hB9) rfl ?_
  exact HF.out _ _ _ _ EU.out EX.out ST9.out Q9.out
 ·have EX := hid (show chgX x c = { x with non := c.non } from by unfold chgX; rw [if_neg (show ¬ c.kind = 1 by rw [HK.out]; decide), if_pos HK.out])
  have EU := hid (show chgU x c = { chgB c with non := x.non } from by unfold chgU; rw [if_neg (show ¬ c.kind = 1 by rw [HK.out]; decide), if_pos HK.out])
  obtain ⟨g0, g21, g22, g23, g24, g25, g26, g27, g28, g29, g30⟩ := KC.out.ch
  have z1 := KC.out.frozen 29
  obtain ⟨m20, m21, m22, m23, m24, m25, m26⟩ := KX.out.acc
  clear g0
  go_upto_region 17 with fail
  clear g21 g22 g23 g24 g25 g26 g27 g28 g29 g30 z1 m20 m21 m22 m23 m24 m25 m26
  have hX := KX.out.other (p := ⟨P1.heap.size, 29, none⟩) (by have := HD.out; simp; omega) (.int .i64 x.non)
  have hU := KC.out.chNon x.non
  have hQ := Q6.out.setCell (p := ⟨P1.heap.size, 29, none⟩) Q5.out.size (.int .i64 x.non)
  have hK := KS.out.cell KC.out (by decide) 29 (.int .i64 x.non)
  obtain ⟨P3, hP3⟩ : ∃ P3, P2.setCell ⟨P1.heap.size, 29, none⟩ (.int .i64 x.non) = P3 := ⟨_, rfl⟩
  rw [hP3] at hX hU hQ hK ⊢
  clear hP3
  have KX3 := hid hX
  have KC3 := hid hU
  have Q7 := hid hQ
  have KS3 := hid hK
  clear hX hU hQ hK KX KC KS
  obtain ⟨m0, m21, m22, m23, m24, m25, m26, m27, m28, m29, m30⟩ := (HC.out.later Q7.out).ch
  obtain ⟨g20, g21, g22, g23, g24, g25, g26⟩ := KX3.out.acc
  have z1 := KX3.out.frozen 24
  clear m0
  go_upto_region 21 with fail
  clear m21 m22 m23 m24 m25 m26 m27 m28 m29 m30 g20 g21 g22 g23 g24 g25 g26 z1
  have hX := KX3.out.accNon c.non
  have hU := KC3.out.other (p := ⟨w4.heap.size, 24, none⟩) (by have := HD.out; simp; omega) (.int .i64 c.non)
  have hQ := Q7.out.setCell (p := ⟨w4.heap.size, 24, none⟩) Q4S.out (.int .i64 c.non)
  have hK := KS3.out.cell KX3.out (by decide) 24 (.int .i64 c.non)
  obtain ⟨P4, hP4⟩ : ∃ P4, P3.setCell ⟨w4.heap.size, 24, none⟩ (.int .i64 c.non) = P4 := ⟨_, rfl⟩
  rw [hP4] at hX hU hQ hK ⊢
  clear hP4
  have KX4 := hid hX
  have KC4 := hid hU
  have Q7b := hid hQ
  have KS4 := hid hK
  clear hX hU hQ hK KX3 KC3 KS3
  have LXX := KX4.out.accLoad
  have CC := hid (refSet_good P4 (.slice a n cap) l (HS.out.later Q7b.out) HR.out HSL.out ({ x with non := c.non }) (.slice xa x.slots.length xc) (show AcOk ({ x with non := c.non }) from by rw [← EX.out]; exact chgX_ok HXO.out HCO.out) (by rw [← EX.out]; exact HMAY.out) (by obtain ⟨lo, h⟩ := KS4.out; exact h.slots (by have := chgX_wide HCO.out HWD.out; rw [EX.out] at this; exact this)) (by have := chgX_slots (c := c) HXL.out; rw [EX.out] at this; exact this) (by rw [← EX.out]; exact HPUT.out))
  go_wp2_with (refine wpList_load_known rfl _ (.tmp 7) rfl _ rfl _ LXX ?_)
  refine CC.out.mono ?_
  rintro _ w8 ⟨v8, rfl, hst, hb⟩
  have Q8 := hid (Q7b.out.trans (hb.mono Q7b.out.size))
  have KC8 := hid (KC4.out.later hb)
  have ST8 := hid hst
  clear hb CC LXX hst KX4 KC4 KS4
  have LC := hid (show ∀ z : World, Grows w8 z → (loadVar 33 ⟨P1.heap.size, 0, none⟩).run Tryz.prog z = .ok (.agg (chC ({ chgB c with non := x.non }))) z from fun z hz => by obtain ⟨q, rfl⟩ := hz; exact (KC8.out.later q.below).chLoad)
  go_wp2_with fail
  refine wp_region_mix (C := Grows w8) [some false, some true, some false, none, none] hmx (by kernel_rfl) (by kernel_rfl) (grows_refl w8) ?_
  simp only [headOf, tailOf]
  repeat (first | (with_reducible refine wpQuiet_load rfl 33 _ rfl _ rfl _ LC.out ?_; simp only [Act.put, setIfInBounds_toArray, set_cons_succ, set_cons_zero]) | (go_big_quiet_step (fail)))
  refine wpQuiet_nil ?_
  rintro _ ⟨z, rfl⟩
  have hz9 := (HZ.out.later Q8.out).later z.below
  have hi9 := chRow ({ chgB c with non := x.non })
  have Q9 := hid (below_rowAc ((Q2.out.trans (Q8.out.mono Q2.out.size)).trans (z.below.mono (Nat.le_trans Q2.out.size Q8.out.size))) (g := W1.heap.size) (Nat.le_of_lt HLT.out.1) (chC ({ chgB c with non := x.non })))
  have hB9 : Has (z.w.setRow W1.heap.size (chC ({ chgB c with non := x.non }))) W1.heap.size 33 (chC ({ chgB c with non := x.non })) := setRow_heap _ _ _ _ _ _ hz9
  have ST9 := hid ((ST8.out.later z.below).row hz9 (by decide) (chC ({ chgB c with non := x.non })))
  clear LC
  go_wp2_with (refine wpList_store_row rfl _ (.tmp 5) (.tmp 104) rfl _ _ rfl rfl _ _ hz9 hi9.1 hi9.2.1 hi9.2.2 ?_)
  rw [calmPost_normal]
  go_wp2
  refine bodyPost_ret (results_three rfl rfl rfl rfl hB9) rfl ?_
  exact HF.out _ _ _ _ EU.out EX.out ST9.out Q9.out
 ·have EX := hid (show chgX x c = { x with code := c.code } from by unfold chgX; rw [if_neg (show ¬ c.kind = 1 by rw [HK.out]; decide), if_neg (show ¬ c.kind = 2 by rw [HK.out]; decide), if_pos HK.out])
  have EU := hid (show chgU x c = { chgB c with code := x.code } from by unfold chgU; rw [if_neg (show ¬ c.kind = 1 by rw [HK.out]; decide), if_neg (show ¬ c.kind = 2 by rw [HK.out]; decide), if_pos HK.out])
  obtain ⟨g0, g21, g22, g23, g24, g25, g26, g27, g28, g29, g30⟩ := KC.out.ch
  have z1 := KC.out.frozen 30
  obtain ⟨m20, m21, m22, m23, m24, m25, m26⟩ := KX.out.acc
  clear g0
  go_upto_region 20 with fail
  clear g21 g22 g23 g24 g25 g26 g27 g28 g29 g30 z1 m20 m21 m22 m23 m24 m25 m26
  have hX := KX.out.other (p := ⟨P1.heap.size, 30, none⟩) (by have := HD.out; simp; omega) (.string x.code)
  have hU := KC.out.chCode x.code
  have hQ := Q6.out.setCell (p := ⟨P1.heap.size, 30, none⟩) Q5.out.size (.string x.code)
  have hK := KS.out.cell KC.out (by decide) 30 (.string x.code)
  obtain ⟨P3, hP3⟩ : ∃ P3, P2.setCell ⟨P1.heap.size, 30, none⟩ (.string x.code) = P3 := ⟨_, rfl⟩
  rw [hP3] at hX hU hQ hK ⊢
  clear hP3
  have KX3 := hid hX
  have KC3 := hid hU
  have Q7 := hid hQ
  have KS3 := hid hK
  clear hX hU hQ hK KX KC KS
  obtain ⟨m0, m21, m22, m23, m24, m25, m26, m27, m28, m29, m30⟩ := (HC.out.later Q7.out).ch
  obtain ⟨g20, g21, g22, g23, g24, g25, g26⟩ := KX3.out.acc
  have z1 := KX3.out.frozen 25
  clear m0
  go_upto_region 21 with fail
  clear m21 m22 m23 m24 m25 m26 m27 m28 m29 m30 g20 g21 g22 g23 g24 g25 g26 z1
  have hX := KX3.out.accCode c.code
  have hU := KC3.out.other (p := ⟨w4.heap.size, 25, none⟩) (by have := HD.out; simp; omega) (.string c.code)
  have hQ := Q7.out.setCell (p := ⟨w4.heap.size, 25, none⟩) Q4S.out (.string c.code)
  have hK := KS3.out.cell KX3.out (by decide) 25 (.string c.code)
  obtain ⟨P4, hP4⟩ : ∃ P4, P3.setCell ⟨w4.heap.size, 25, none⟩ (.string c.code) = P4 := ⟨_, rfl⟩
  rw [hP4] at hX hU hQ hK ⊢
  clear hP4
  have KX4 := hid hX
  have KC4 := hid hU
  have Q7b := hid hQ
  have KS4 := hid hK
  clear hX hU hQ hK KX3 KC3 KS3
  have LXX := KX4.out.accLoad
  have CC := hid (refSet_good P4 (.slice a n cap) l (HS.out.later Q7b.out) HR.out HSL.out ({ x with code := c.code }) (.slice xa x.slots.length xc) (show AcOk ({ x with code := c.code }) from by rw [← EX.out]; exact chgX_ok HXO.out HCO.out) (by rw [← EX.out]; exact HMAY.out) (by obtain ⟨lo, h⟩ := KS4.out; exact h.slots (by have := chgX_wide HCO.out HWD.out; rw [EX.out] at this; exact this)) (by have := chgX_slots (c := c) HXL.out; rw [EX.out] at this; exact this) (by rw [← EX.out]; exact HPUT.out))
  go_wp2_with (refine wpList_load_known rfl _ (.tmp 7) rfl _ rfl _ LXX ?_)
  refine CC.out.mono ?_
  rintro _ w8 ⟨v8, rfl, hst, hb⟩
  have Q8 := hid (Q7b.out.trans (hb.mono Q7b.out.size))
  have KC8 := hid (KC4.out.later hb)
  have ST8 := hid hst
  clear hb CC LXX hst KX4 KC4 KS4
  have LC := hid (show ∀ z : World, Grows w8 z → (loadVar 33 ⟨P1.heap.size, 0, none⟩).run Tryz.prog z = .ok (.agg (chC ({ chgB c with code := x.code }))) z from fun z hz => by obtain ⟨q, rfl⟩ := hz; exact (KC8.out.later q.below).chLoad)
  go_wp2_with fail
  refine wp_region_mix (C := Grows w8) [some false, some true, some false, none, none] hmx (by kernel_rfl) (by kernel_rfl) (grows_refl w8) ?_
  simp only [headOf, tailOf]
  repeat (first | (with_reducible refine wpQuiet_load rfl 33 _ rfl _ rfl _ LC.out ?_; simp only [Act.put, setIfInBounds_toArray, set_cons_succ, set_cons_zero]) | (go_big_quiet_step (fail)))
  refine wpQuiet_nil ?_
  rintro _ ⟨z, rfl⟩
  have hz9 := (HZ.out.later Q8.out).later z.below
  have hi9 := chRow ({ chgB c with code := x.code })
  have Q9 := hid (below_rowAc ((Q2.out.trans (Q8.out.mono Q2.out.size)).trans (z.below.mono (Nat.le_trans Q2.out.size Q8.out.size))) (g := W1.heap.size) (Nat.le_of_lt HLT.out.1) (chC ({ chgB c with code := x.code })))
  have hB9 : Has (z.w.setRow W1.heap.size (chC ({ chgB c with code := x.code }))) W1.heap.size 33 (chC ({ chgB c with code := x.code })) := setRow_heap _ _ _ _ _ _ hz9
  have ST9 := hid ((ST8.out.later z.below).row hz9 (by decide) (chC ({ chgB c with code := x.code })))
  clear LC
  go_wp2_with (refine wpList_store_row rfl _ (.tmp 5) (.tmp 104) rfl _ _ rfl rfl _ _ hz9 hi9.1 hi9.2.1 hi9.2.2 ?_)
  rw [calmPost_normal]
  go_wp2
  refine bodyPost_ret (results_three rfl rfl rfl rfl hB9) rfl ?_
  exact HF.out _ _ _ _ EU.out EX.out ST9.out Q9.out
 ·have hput4 : rightB' x.slots = true ∧ (mergeL x.slots [(c.key, c.val)]).length ≤ 1000 := by
   have h := HCE.out
   unfold chgE at h
   rw [if_neg (show ¬ c.kind = 1 by rw [HK.out]; decide), if_neg (show ¬ c.kind = 2 by rw [HK.out]; decide), if_neg (show ¬ c.kind = 3 by rw [HK.out]; decide), if_pos HK.out] at h
   split at h
   ·rename_i h1
    split at h
    ·rename_i h2; exact ⟨h1, h2⟩
    ·exact absurd h (by decide)
   ·exact absurd h (by decide)
  have HP4 := hid hput4
  have EX := hid (show chgX x c = { x with slots := mergeL x.slots [(c.key, c.val)] } from by unfold chgX; rw [if_neg (show ¬ c.kind = 1 by rw [HK.out]; decide), if_neg (show ¬ c.kind = 2 by rw [HK.out]; decide), if_neg (show ¬ c.kind = 3 by rw [HK.out]; decide), if_pos HK.out, if_pos hput4.1, if_pos hput4.2])
  have EU := hid (show chgU x c = { ({ chgB c with key := c.key } : Ch) with val := look x.slots c.key } from by unfold chgU; rw [if_neg (show ¬ c.kind = 1 by rw [HK.out]; decide), if_neg (show ¬ c.kind = 2 by rw [HK.out]; decide), if_neg (show ¬ c.kind = 3 by rw [HK.out]; decide), if_pos HK.out])
  clear hput4
  obtain ⟨g0, g21, g22, g23, g24, g25, g26, g27, g28, g29, g30⟩ := KC.out.ch
  have z21 := KC.out.frozen 21
  have z22 := KC.out.frozen 22
  have z23 := KC.out.frozen 23
  have z24 := KC.out.frozen 24
  obtain ⟨m0, m21, m22, m23, m24, m25, m26, m27, m28, m29, m30⟩ := (HC.out.later Q6.out).ch
  clear g0 m0
  go_upto_region 7 with fail
  clear g21 g22 g23 g24 g25 g26 g27 g28 g29 g30 z21 z22 z23 z24
  clear m21 m22 m23 m24 m25 m26 m27 m28 m29 m30
  have hX := ((((KX.out.other (p := ⟨P1.heap.size, 21, none⟩) (by have := HD.out; simp; omega) (.int .u64 (lim c.key 0))).other (p := ⟨P1.heap.size, 22, none⟩) (by have := HD.out; simp; omega) (.int .u64 (lim c.key 1))).other (p := ⟨P1.heap.size, 23, none⟩) (by have := HD.out; simp; omega) (.int .u64 (lim c.key 2))).other (p := ⟨P1.heap.size, 24, none⟩) (by have := HD.out; simp; omega) (.int .u64 (lim c.key 3)))
  have hU := KC.out.chKey c.key
  have hQ := ((((Q6.out.setCell (p := ⟨P1.heap.size, 21, none⟩) Q5.out.size (.int .u64 (lim c.key 0))).setCell (p := ⟨P1.heap.size, 22, none⟩) Q5.out.size (.int .u64 (lim c.key 1))).setCell (p := ⟨P1.heap.size, 23, none⟩) Q5.out.size (.int .u64 (lim c.key 2))).setCell (p := ⟨P1.heap.size, 24, none⟩) Q5.out.size (.int .u64 (lim c.key 3)))
  have hK := ((((KS.out.cell KC.out (by decide) 21 (.int .u64 (lim c.key 0))).cell (KC.out.set 21 _) (by decide) 22 (.int .u64 (lim c.key 1))).cell ((KC.out.set 21 _).set 22 _) (by decide) 23 (.int .u64 (lim c.key 2))).cell (((KC.out.set 21 _).set 22 _).set 23 _) (by decide) 24 (.int .u64 (lim c.key 3)))
  obtain ⟨P3, hP3⟩ : ∃ P3, ((((P2.setCell ⟨P1.heap.size, 21, none⟩ (.int .u64 (lim c.key 0))).setCell ⟨P1.heap.size, 22, none⟩ (.int .u64 (lim c.key 1))).setCell ⟨P1.heap.size, 23, none⟩ (.int .u64 (lim c.key 2))).setCell ⟨P1.heap.size, 24, none⟩ (.int .u64 (lim c.key 3))) = P3 := ⟨_, rfl⟩
  rw [hP3] at hX hU hQ hK ⊢
  clear hP3
  have KX3 := hid hX
  have KC3 := hid hU
  have Q3 := hid hQ
  have KS3 := hid hK
  clear hX hU hQ hK KX KC KS
  obtain ⟨m0, m21, m22, m23, m24, m25, m26, m27, m28, m29, m30⟩ := (HC.out.later Q3.out).ch
  obtain ⟨g20, g21, g22, g23, g24, g25, g26⟩ := KX3.out.acc
  have hs3 := (show SlotsAt P3 (.slice xa x.slots.length xc) x.slots from by obtain ⟨lo, h⟩ := KS3.out; exact h.slots HWD.out)
  have CC := hid (show Calls Tryz.prog 43 #[(.slice xa x.slots.length xc), .agg #[.int .u64 (lim c.key 0), .int .u64 (lim c.key 1), .int .u64 (lim c.key 2), .int .u64 (lim c.key 3)]] P3 (fun e w' => e = .returned (.agg #[.int .u64 (lim (look x.slots c.key) 0), .int .u64 (lim (look x.slots c.key) 1), .int .u64 (lim (look x.slots c.key) 2), .int .u64 (lim (look x.slots c.key) 3)]) ∧ Below P3.heap.size P3 w') from refGet_any P3 (.slice xa x.slots.length xc) x.slots hs3 c.key HCO.out.key)
  clear m0 hs3
  go_wp2_with fail
  clear g20 g21 g22 g23 g24 g25 g26
  clear m21 m22 m23 m24 m25 m26 m27 m28 m29 m30
  refine CC.out.mono ?_
  rintro _ P4 ⟨rfl, hb⟩
  have KX4 := hid (KX3.out.later hb)
  have KC4 := hid (KC3.out.later hb)
  have KS4 := hid (KS3.out.later hb)
  have Q7 := hid (Q3.out.trans (hb.mono Q3.out.size))
  clear hb CC KX3 KC3 KS3
  obtain ⟨g0, g21, g22, g23, g24, g25, g26, g27, g28, g29, g30⟩ := KC4.out.ch
  have z25 := KC4.out.frozen 25
  have z26 := KC4.out.frozen 26
  have z27 := KC4.out.frozen 27
  have z28 := KC4.out.frozen 28
  clear g0
  generalize hlk : look x.slots c.key = lk at *
  replace hlk := hid hlk
  go_upto_region 8 with fail
  clear g21 g22 g23 g24 g25 g26 g27 g28 g29 g30 z25 z26 z27 z28
  have hX := ((((KX4.out.other (p := ⟨P1.heap.size, 25, none⟩) (by have := HD.out; simp; omega) (.int .u64 (lim lk 0))).other (p := ⟨P1.heap.size, 26, none⟩) (by have := HD.out; simp; omega) (.int .u64 (lim lk 1))).other (p := ⟨P1.heap.size, 27, none⟩) (by have := HD.out; simp; omega) (.int .u64 (lim lk 2))).other (p := ⟨P1.heap.size, 28, none⟩) (by have := HD.out; simp; omega) (.int .u64 (lim lk 3)))
  have hU := KC4.out.chVal lk
  have hQ := ((((Q7.out.setCell (p := ⟨P1.heap.size, 25, none⟩) Q5.out.size (.int .u64 (lim lk 0))).setCell (p := ⟨P1.heap.size, 26, none⟩) Q5.out.size (.int .u64 (lim lk 1))).setCell (p := ⟨P1.heap.size, 27, none⟩) Q5.out.size (.int .u64 (lim lk 2))).setCell (p := ⟨P1.heap.size, 28, none⟩) Q5.out.size (.int .u64 (lim lk 3)))
  have hK := ((((KS4.out.cell KC4.out (by decide) 25 (.int .u64 (lim lk 0))).cell (KC4.out.set 25 _) (by decide) 26 (.int .u64 (lim lk 1))).cell ((KC4.out.set 25 _).set 26 _) (by decide) 27 (.int .u64 (lim lk 2))).cell (((KC4.out.set 25 _).set 26 _).set 27 _) (by decide) 28 (.int .u64 (lim lk 3)))
  obtain ⟨P5, hP5⟩ : ∃ P5, ((((P4.setCell ⟨P1.heap.size, 25, none⟩ (.int .u64 (lim lk 0))).setCell ⟨P1.heap.size, 26, none⟩ (.int .u64 (lim lk 1))).setCell ⟨P1.heap.size, 27, none⟩ (.int .u64 (lim lk 2))).setCell ⟨P1.heap.size, 28, none⟩ (.int .u64 (lim lk 3))) = P5 := ⟨_, rfl⟩
  rw [hP5] at hX hU hQ hK ⊢
  clear hP5
  have KX5 := hid hX
  have KC5 := hid hU
  have Q8 := hid hQ
  have KS5 := hid hK
  clear hX hU hQ hK KX4 KC4 KS4
  obtain ⟨m0, m21, m22, m23, m24, m25, m26, m27, m28, m29, m30⟩ := (HC.out.later Q8.out).ch
  obtain ⟨g20, g21, g22, g23, g24, g25, g26⟩ := KX5.out.acc
  have hs5 := (show SlotsAt P5 (.slice xa x.slots.length xc) x.slots from by obtain ⟨lo, h⟩ := KS5.out; exact h.slots HWD.out)
  have CC := hid (show Calls Tryz.prog 44 #[(.slice xa x.slots.length xc), .agg #[.int .u64 (lim c.key 0), .int .u64 (lim c.key 1), .int .u64 (lim c.key 2), .int .u64 (lim c.key 3)], .agg #[.int .u64 (lim c.val 0), .int .u64 (lim c.val 1), .int .u64 (lim c.val 2), .int .u64 (lim c.val 3)]] P5 (fun e w' => ∃ sv', e = .returned (.tuple #[sv', .int .i64 0]) ∧ RowT w' P5.heap.size sv' (mergeL x.slots [(c.key, c.val)]) ∧ Below P5.heap.size P5 w') from (refPut_any P5 (.slice xa x.slots.length xc) x.slots hs5 c.key c.val HCO.out.key HCO.out.val).mono fun e w' h => by
   obtain ⟨sv', er, sl, h1, h2, h3, h4, h5⟩ := done_put h
   rw [if_pos HP4.out.1, if_pos HP4.out.2] at h3 h4
   subst h3 h4
   exact ⟨sv', h1, h2, h5⟩)
  clear m0 hs5
  go_wp2_with fail
  clear g20 g21 g22 g23 g24 g25 g26
  clear m21 m22 m23 m24 m25 m26 m27 m28 m29 m30
  refine CC.out.mono ?_
  rintro _ P6 ⟨sv6, rfl, hrow, hb⟩
  obtain ⟨a6, c6, rfl⟩ := hrow.shape
  have KX6 := hid (KX5.out.later hb)
  have KC6 := hid (KC5.out.later hb)
  have KS6 := hid (show KeepS P6 _ _ from ⟨_, hrow⟩)
  have Q9 := hid (Q8.out.trans (hb.mono Q8.out.size))
  have HML := hid (show (mergeL x.slots [(c.key, c.val)]).length ≤ 100000 by have := HP4.out.2; omega)
  clear hb CC KX5 KC5 KS5 hrow
  generalize mergeL x.slots [(c.key, c.val)] = ml at *
  obtain ⟨mn, hmn⟩ : ∃ mn, ml.length = mn := ⟨_, rfl⟩
  rw [hmn] at KS6 ⊢
  clear hmn
  obtain ⟨g20, g21, g22, g23, g24, g25, g26⟩ := KX6.out.acc
  have z26 := KX6.out.frozen 26
  go_upto_region 21 with fail
  clear g20 g21 g22 g23 g24 g25 g26 z26
  have hX := KX6.out.set 26 (.slice a6 mn c6)
  rw [acC_slots x (.slice xa x.slots.length xc) (.slice a6 mn c6) ml] at hX
  have hU := KC6.out.other (p := ⟨w4.heap.size, 26, none⟩) (by have := HD.out; simp; omega) (.slice a6 mn c6)
  have hQ := Q9.out.setCell (p := ⟨w4.heap.size, 26, none⟩) Q4S.out (.slice a6 mn c6)
  have hK := KS6.out.cell KX6.out (by decide) 26 (.slice a6 mn c6)
  obtain ⟨P7, hP7⟩ : ∃ P7, P6.setCell ⟨w4.heap.size, 26, none⟩ (.slice a6 mn c6) = P7 := ⟨_, rfl⟩
  rw [hP7] at hX hU hQ hK ⊢
  clear hP7
  have KX7 := hid hX
  have KC7 := hid hU
  have Q7b := hid hQ
  have KS7 := hid hK
  clear hX hU hQ hK KX6 KC6 KS6
  have LXX := KX7.out.accLoad
  have CC := hid (refSet_good P7 (.slice a n cap) l (HS.out.later Q7b.out) HR.out HSL.out ({ x with slots := ml }) (.slice a6 mn c6) (show AcOk ({ x with slots := ml }) from by rw [← EX.out]; exact chgX_ok HXO.out HCO.out) (by rw [← EX.out]; exact HMAY.out) (by obtain ⟨lo, h⟩ := KS7.out; exact h.slots (by have := chgX_wide HCO.out HWD.out; rw [EX.out] at this; exact this)) (by have := chgX_slots (c := c) HXL.out; rw [EX.out] at this; exact this) (by rw [← EX.out]; exact HPUT.out))
  go_wp2_with (refine wpList_load_known rfl _ (.tmp 7) rfl _ rfl _ LXX ?_)
  refine CC.out.mono ?_
  rintro _ w8 ⟨v8, rfl, hst, hb⟩
  have Q8 := hid (Q7b.out.trans (hb.mono Q7b.out.size))
  have KC8 := hid (KC7.out.later hb)
  have ST8 := hid hst
  clear hb CC LXX hst KX7 KC7 KS7
  have LC := hid (show ∀ z : World, Grows w8 z → (loadVar 33 ⟨P1.heap.size, 0, none⟩).run Tryz.prog z = .ok (.agg (chC ({ ({ chgB c with key := c.key } : Ch) with val := lk }))) z from fun z hz => by obtain ⟨q, rfl⟩ := hz; exact (KC8.out.later q.below).chLoad)
  go_wp2_with fail
  refine wp_region_mix (C := Grows w8) [some false, some true, some false, none, none] hmx (by kernel_rfl) (by kernel_rfl) (grows_refl w8) ?_
  simp only [headOf, tailOf]
  repeat (first | (with_reducible refine wpQuiet_load rfl 33 _ rfl _ rfl _ LC.out ?_; simp only [Act.put, setIfInBounds_toArray, set_cons_succ, set_cons_zero]) | (go_big_quiet_step (fail)))
  refine wpQuiet_nil ?_
  rintro _ ⟨z, rfl⟩
  have hz9 := (HZ.out.later Q8.out).later z.below
  have hi9 := chRow ({ ({ chgB c with key := c.key } : Ch) with val := lk })
  have Q9 := hid (below_rowAc ((Q2.out.trans (Q8.out.mono Q2.out.size)).trans (z.below.mono (Nat.le_trans Q2.out.size Q8.out.size))) (g := W1.heap.size) (Nat.le_of_lt HLT.out.1) (chC ({ ({ chgB c with key := c.key } : Ch) with val := lk })))
  have hB9 : Has (z.w.setRow W1.heap.size (chC ({ ({ chgB c with key := c.key } : Ch) with val := lk }))) W1.heap.size 33 (chC ({ ({ chgB c with key := c.key } : Ch) with val := lk })) := setRow_heap _ _ _ _ _ _ hz9
  have ST9 := hid ((ST8.out.later z.below).row hz9 (by decide) (chC ({ ({ chgB c with key := c.key } : Ch) with val := lk })))
  clear LC
  go_wp2_with (refine wpList_store_row rfl _ (.tmp 5) (.tmp 104) rfl _ _ rfl rfl _ _ hz9 hi9.1 hi9.2.1 hi9.2.2 ?_)
  rw [calmPost_normal]
  go_wp2
  refine bodyPost_ret (results_three rfl rfl rfl rfl hB9) rfl ?_
  exact HF.out _ _ _ _ EU.out EX.out ST9.out Q9.out
end Go.Proofs.YtkicmbdjihjgfaaGreatDoor
namespace Go.Proofs.YtkicmbdjihjgfaaGreatDoor
open Go Go.RowKit
def RowF (N : Nat) (W : World) (v : Value) (zs : List (Nat → Int)) : Prop :=
 ∃ a cap, v = .slice a zs.length cap ∧ zs.length ≤ cap ∧ cap ≤ 9223372036854775807 ∧ ∀ (i : Nat) (p : Nat → Int), zs[i]? = some p → ∃ b, a = some b ∧ ∀ j, j < N → I64 (p j) ∧ W.cell? ((b.add (i * N)).add j) = some (.int .i64 (p j))
theorem RowF.keep {N : Nat} {W X : World} {v : Value} {zs : List (Nat → Int)} (h : RowF N W v zs) (hk : ∀ (a : Addr) (u : Value), W.cell? a = some u → X.cell? a = some u) : RowF N X v zs := by
 obtain ⟨a, cap, h1, h2, h3, h4⟩ := h
 refine ⟨a, cap, h1, h2, h3, fun i p hp => ?_⟩
 obtain ⟨b, e, c⟩ := h4 i p hp
 exact ⟨b, e, fun j hj => ⟨(c j hj).1, hk _ _ (c j hj).2⟩⟩
theorem RowF.later {N : Nat} {W X : World} {v : Value} {zs : List (Nat → Int)} (h : RowF N W v zs) (hb : Below W.heap.size W X) : RowF N X v zs := h.keep (cell_below hb)
theorem RowF.shape {N : Nat} {W : World} {v : Value} {zs : List (Nat → Int)} (h : RowF N W v zs) : ∃ a cap, v = .slice a zs.length cap ∧ zs.length ≤ cap ∧ cap ≤ 9223372036854775807 := by
 obtain ⟨a, cap, h1, h2, h3, _⟩ := h
 exact ⟨a, cap, h1, h2, h3⟩
def RowsIn (N : Nat) (W : World) (p : Addr) (f : Nat → Int) : Prop := ∀ j, j < N → I64 (f j) ∧ W.cell? (p.add j) = some (.int .i64 (f j))
theorem RowF.at {N : Nat} {W : World} {a : Option Addr} {n cap : Nat} {zs : List (Nat → Int)} (h : RowF N W (.slice a n cap) zs) {i : Nat} {p : Nat → Int} (hp : zs[i]? = some p) : ∃ b, a = some b ∧ RowsIn N W (b.add (i * N)) p := by
 obtain ⟨a', cap', h1, h2, h3, h4⟩ := h
 injection h1 with e1 e2 e3
 subst e1
 exact h4 i p hp
def rowL (N : Nat) (f : Nat → Int) : List Value := (List.range N).map fun j => .int .i64 (f j)
theorem rowL_len (N : Nat) (f : Nat → Int) : (rowL N f).length = N := by simp [rowL]
theorem RowsIn.load {N : Nat} {W : World} {p : Addr} {f : Nat → Int} (h : RowsIn N W p f) {P : Program} {ty : TypeId} {d : TypeDesc} (hu : P.underlying ty = some d) (hd : d.isRow = true) (hi : (P.info? ty).map (·.size) = some N) :
  (loadVar ty p).run P W = .ok (.agg (rowL N f).toArray) W :=
 run_loadVar_at W p ty (rowL N f) d (fun j v hj => by
  have hjN : j < N := by
   have := (List.getElem?_eq_some_iff.1 hj).1
   rwa [rowL_len] at this
  have e : (rowL N f)[j]? = some (.int .i64 (f j)) := by simp [rowL, hjN]
  rw [e] at hj
  injection hj with hj
  subst hj
  exact (h j hjN).2) hu hd (by rw [rowL_len]; exact hi)
end Go.Proofs.YtkicmbdjihjgfaaGreatDoor
