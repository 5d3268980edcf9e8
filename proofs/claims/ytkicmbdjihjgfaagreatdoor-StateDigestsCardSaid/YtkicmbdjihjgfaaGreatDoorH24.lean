/- Part. -/
import Derived.Test.YtkicmbdjihjgfaaGreatDoorH23
import Derived.Test.YtkicmbdjihjgfaaGreatDoorH22
import Derived.Deep.CutRange
import Derived.Test.YtkicmbdjihjgfaaGreatDoorH10
import Derived.Test.YtkicmbdjihjgfaaGreatDoorH03
import Derived.Test.YtkicmbdjihjgfaaGreatDoorH04
set_option maxRecDepth 100000
set_option maxHeartbeats 16000000
namespace Go.Proofs.YtkicmbdjihjgfaaGreatDoor
section
open Go Go.RowKit
theorem rightB_none0 : rightB' [] = true := (rightB_iff' []).2 ⟨by simp, by unfold Rise; simp, by simp⟩
theorem rightS_nil0 : rightS [] = true := by unfold rightS upsB; simp [Ups]
theorem may_ac0 (n b : Nat) (z : Int) (l : List Sl) (h : rightB' l = true) (h1 : 0 ≤ z) (h2 : z ≤ 9007199254740992) : mayB ⟨n, b, z, ⟨#[]⟩, l⟩ = true := by
 have : (⟨#[]⟩ : ByteArray).size ≤ 24576 := by decide
 unfold mayB
 simp only [h, decide_eq_true h1, decide_eq_true h2, decide_eq_true this, Bool.and_self]
theorem empty_zero0 (n : Nat) : emptyB ⟨n, 0, 0, ⟨#[]⟩, []⟩ = true := by unfold emptyB; rfl
theorem do_parts {l : List Ac} {c : Ch} (h : doE l c = 0) : rightS l = true ∧ chgE (findA l c.at_) c = 0 ∧ mayB (chgX (findA l c.at_) c) = true ∧ (putA l (chgX (findA l c.at_) c)).length ≤ 200 ∧ doL l c = putA l (chgX (findA l c.at_) c) ∧ doU l c = chgU (findA l c.at_) c := by
 have hl : doL l c = putA l (chgX (findA l c.at_) c) := by unfold doL; rw [if_pos h]
 have hu : doU l c = chgU (findA l c.at_) c := by unfold doU; rw [if_pos h]
 unfold doE at h
 split at h
 ·exact absurd h (by decide)
 rename_i h1
 split at h
 ·rename_i h2; exact absurd h h2
 rename_i h2
 split at h
 ·exact absurd h (by decide)
 rename_i h3
 split at h
 ·rename_i h4
  exact ⟨by simpa using h1, by simpa using h2, by simpa using h3, h4, hl, hu⟩
 ·exact absurd h (by decide)
theorem chg_kind {x : Ac} {c : Ch} (h : chgE x c = 0) : c.kind = 1 ∨ c.kind = 2 ∨ c.kind = 3 ∨ c.kind = 4 := by
 unfold chgE at h
 split at h
 ·rename_i h1; exact .inl h1
 split at h
 ·rename_i h1; exact .inr (.inl h1)
 split at h
 ·rename_i h1; exact .inr (.inr (.inl h1))
 split at h
 ·rename_i h1; exact .inr (.inr (.inr h1))
 ·exact absurd h (by decide)
theorem rightS_iff (l : List Ac) : rightS l = true ↔ l.length ≤ 200 ∧ Ups l ∧ ∀ x ∈ l, strayB x = false := by
 unfold rightS
 rw [Bool.and_eq_true, Bool.and_eq_true, decide_eq_true_eq, upsB_iff, List.all_eq_true]
 simp
theorem putA_ups {l : List Ac} (hu : Ups l) (x : Ac) : Ups (putA l x) := by
 unfold putA Ups
 rw [List.append_assoc, List.pairwise_append]
 refine ⟨hu.filter _, ?_, ?_⟩
 ·rw [List.pairwise_append]
  refine ⟨by split <;> simp, hu.filter _, ?_⟩
  intro a ha b hb
  split at ha
  ·cases ha
  ·simp at ha
   subst ha
   have := (List.mem_filter.1 hb).2
   simpa using this
 ·intro a ha b hb
  have h1 := (List.mem_filter.1 ha).2
  simp at h1
  rcases List.mem_append.1 hb with h | h
  ·split at h
   ·cases h
   ·simp at h
    subst h
    exact h1
  ·have h2 := (List.mem_filter.1 h).2
   simp at h2
   omega
theorem putA_grow (l : List Ac) (x : Ac) : (putA l x).length ≤ l.length + 1 := by
 have key : ∀ l : List Ac, (l.filter (fun y => decide (y.at_ < x.at_))).length + (l.filter (fun y => decide (x.at_ < y.at_))).length ≤ l.length := by
  intro l
  induction l with
  | nil => simp
  | cons z r ih =>
   rw [List.filter_cons, List.filter_cons]
   split
   ·rename_i h
    rw [if_neg (by simp at h ⊢; omega)]
    simp only [List.length_cons]
    omega
   ·split
    ·simp only [List.length_cons]
     omega
    ·simp only [List.length_cons]
     omega
 have := key l
 unfold putA
 simp only [List.length_append]
 split
 ·simp only [List.length_nil]; omega
 ·simp only [List.length_singleton]; omega
theorem right_put {l : List Ac} {x : Ac} (h : rightS l = true) (hm : mayB x = true) (hl : (putA l x).length ≤ 200) : rightS (putA l x) = true := by
 obtain ⟨_, hu, hs⟩ := (rightS_iff l).1 h
 refine (rightS_iff _).2 ⟨hl, putA_ups hu x, fun y hy => ?_⟩
 unfold putA at hy
 rcases List.mem_append.1 hy with hy | hy
 ·rcases List.mem_append.1 hy with hy | hy
  ·exact hs y (List.mem_filter.1 hy).1
  ·split at hy
   ·cases hy
   ·rename_i he
    simp at hy
    subst hy
    unfold strayB
    rw [hm, show emptyB y = false by simpa using he]
    rfl
 ·exact hs y (List.mem_filter.1 hy).1
theorem empty_is {x : Ac} (h : emptyB x = true) : x = ⟨x.at_, 0, 0, ⟨#[]⟩, []⟩ := by
 unfold emptyB at h
 simp only [Bool.and_eq_true, decide_eq_true_eq] at h
 obtain ⟨h1, h2, h3, h4⟩ := h
 obtain ⟨a, b, n, c, s⟩ := x
 simp only at h1 h2 h3 h4
 subst h1 h2
 have hc : c = ⟨#[]⟩ := by
  obtain ⟨⟨d⟩⟩ := c
  congr 2
  exact List.eq_nil_of_length_eq_zero h3
 subst hc
 rw [List.eq_nil_of_length_eq_zero h4]
theorem findA_at (l : List Ac) (t : Nat) : (findA l t).at_ = t := by
 unfold findA
 cases h : l.find? (fun x => decide (x.at_ = t)) with
 | none => rfl
 | some x => simpa using List.find?_some h
theorem find_put (l : List Ac) (x : Ac) : findA (putA l x) x.at_ = x := by
 unfold findA putA
 have h1 : (l.filter (fun y => decide (y.at_ < x.at_))).find? (fun y => decide (y.at_ = x.at_)) = none := by
  rw [List.find?_eq_none]
  intro y hy
  have := (List.mem_filter.1 hy).2
  simp at this ⊢
  omega
 have h2 : (l.filter (fun y => decide (x.at_ < y.at_))).find? (fun y => decide (y.at_ = x.at_)) = none := by
  rw [List.find?_eq_none]
  intro y hy
  have := (List.mem_filter.1 hy).2
  simp at this ⊢
  omega
 rw [List.find?_append, List.find?_append, h1, h2]
 split
 ·rename_i h
  simpa using (empty_is h).symm
 ·simp
theorem put_put (l : List Ac) {x y : Ac} (h : x.at_ = y.at_) : putA (putA l x) y = putA l y := by
 have e1 : (putA l x).filter (fun z => decide (z.at_ < y.at_)) = l.filter (fun z => decide (z.at_ < y.at_)) := by
  unfold putA
  rw [List.filter_append, List.filter_append, List.filter_filter, List.filter_filter]
  have a : (if emptyB x = true then ([] : List Ac) else [x]).filter (fun z => decide (z.at_ < y.at_)) = [] := by
   split
   ·rfl
   ·rw [List.filter_cons_of_neg (by simp; omega)]; rfl
  have b : l.filter (fun z => decide (z.at_ < y.at_) && decide (x.at_ < z.at_)) = [] := by
   rw [List.filter_eq_nil_iff]
   intro z _
   simp
   omega
  rw [a, b, List.append_nil, List.append_nil]
  refine List.filter_congr fun z _ => ?_
  rw [h]
  simp
 have e2 : (putA l x).filter (fun z => decide (y.at_ < z.at_)) = l.filter (fun z => decide (y.at_ < z.at_)) := by
  unfold putA
  rw [List.filter_append, List.filter_append, List.filter_filter, List.filter_filter]
  have a : (if emptyB x = true then ([] : List Ac) else [x]).filter (fun z => decide (y.at_ < z.at_)) = [] := by
   split
   ·rfl
   ·rw [List.filter_cons_of_neg (by simp; omega)]; rfl
  have b : l.filter (fun z => decide (y.at_ < z.at_) && decide (z.at_ < x.at_)) = [] := by
   rw [List.filter_eq_nil_iff]
   intro z _
   simp
   omega
  rw [a, b, List.nil_append, List.nil_append]
  refine List.filter_congr fun z _ => ?_
  rw [h]
  simp
 rw [show putA (putA l x) y = (putA l x).filter (fun z => decide (z.at_ < y.at_)) ++ (if emptyB y = true then [] else [y]) ++ (putA l x).filter (fun z => decide (y.at_ < z.at_)) from rfl, e1, e2]
 rfl
theorem split3 {l : List Ac} (hu : Ups l) (t : Nat) : l = l.filter (fun z => decide (z.at_ < t)) ++ (l.find? (fun z => decide (z.at_ = t))).toList ++ l.filter (fun z => decide (t < z.at_)) := by
 induction l with
 | nil => rfl
 | cons z r ih =>
  obtain ⟨hz, hr⟩ := List.pairwise_cons.1 hu
  have ih := ih hr
  have hno : z.at_ ≥ t → r.filter (fun y => decide (y.at_ < t)) = [] ∧ r.find? (fun y => decide (y.at_ = t)) = none ∧ r.filter (fun y => decide (t < y.at_)) = r := fun h =>
   ⟨by rw [List.filter_eq_nil_iff]; intro y hy; have := hz y hy; simp; omega, by rw [List.find?_eq_none]; intro y hy; have := hz y hy; simp; omega, by rw [List.filter_eq_self]; intro y hy; have := hz y hy; simp; omega⟩
  rcases Nat.lt_trichotomy z.at_ t with h | h | h
  ·rw [List.filter_cons_of_pos (by simpa using h), List.find?_cons_of_neg (by simp; omega), List.filter_cons_of_neg (by simp; omega)]
   rw [List.cons_append, List.cons_append, ← ih]
  ·obtain ⟨a, b, c⟩ := hno (by omega)
   rw [List.filter_cons_of_neg (by simp; omega), List.find?_cons_of_pos (by simpa using h), List.filter_cons_of_neg (by simp; omega), a, c]
   rfl
  ·obtain ⟨a, b, c⟩ := hno (by omega)
   rw [List.filter_cons_of_neg (by simp; omega), List.find?_cons_of_neg (by simp; omega), List.filter_cons_of_pos (by simpa using h), a, b, c]
   rfl
theorem put_find {l : List Ac} (hr : rightS l = true) (t : Nat) : putA l (findA l t) = l := by
 obtain ⟨_, hu, hs⟩ := (rightS_iff l).1 hr
 have e := split3 hu t
 unfold putA
 rw [findA_at]
 cases h : l.find? (fun x => decide (x.at_ = t)) with
 | none =>
  rw [h] at e
  have : findA l t = ⟨t, 0, 0, ⟨#[]⟩, []⟩ := by unfold findA; rw [h]; rfl
  rw [this, if_pos (empty_zero0 t)]
  exact e.symm
 | some x =>
  rw [h] at e
  have hx : findA l t = x := by unfold findA; rw [h]; rfl
  have hm := List.mem_of_find?_eq_some h
  have hst := hs x hm
  have he : emptyB x = false := by
   unfold strayB at hst
   rw [Bool.or_eq_false_iff] at hst
   exact hst.1
  rw [hx, if_neg (by rw [he]; decide)]
  exact e.symm
theorem right_may {l : List Ac} (hr : rightS l = true) (t : Nat) : mayB (findA l t) = true := by
 obtain ⟨_, hu, hs⟩ := (rightS_iff l).1 hr
 unfold findA
 cases h : l.find? (fun x => decide (x.at_ = t)) with
 | none => exact may_ac0 _ _ _ _ rightB_none0 (by decide) (by decide)
 | some x =>
  have := hs x (List.mem_of_find?_eq_some h)
  unfold strayB at this
  rw [Bool.or_eq_false_iff] at this
  simpa using this.2
theorem may_slots {x : Ac} (h : mayB x = true) : rightB' x.slots = true := by
 unfold mayB at h
 simp only [Bool.and_eq_true] at h
 exact h.2.2.2
theorem chgX_at (x : Ac) (c : Ch) : (chgX x c).at_ = x.at_ := by
 unfold chgX
 repeat' split
 all_goals rfl
theorem chgU_at (x : Ac) (c : Ch) : (chgU x c).at_ = c.at_ := by
 unfold chgU
 repeat' split
 all_goals rfl
def reC (c : Ch) : Ch := if c.kind = 1 then { chgB c with val := c.val } else if c.kind = 2 then { chgB c with non := c.non } else if c.kind = 3 then { chgB c with code := c.code } else if c.kind = 4 then { chgB c with key := c.key, val := c.val } else chgB c
theorem rise_one (x : Sl) : Rise [x] := by unfold Rise; simp
theorem merge_back {s : List Sl} (hk : Kept s) (k v : Nat) : mergeL (mergeL s [(k, v)]) [(k, look s k)] = s ∧ look (mergeL s [(k, v)]) k = v := by
 have h1 := mergeL_kept (p := [(k, v)]) hk.1 (rise_one _)
 refine ⟨kept_ext (mergeL_kept h1.1 (rise_one _)) hk fun q => ?_, ?_⟩
 ·rw [show mergeL (mergeL s [(k, v)]) [(k, look s k)] = putL (putL s (k, v)) (k, look s k) from rfl, look_putL (show Kept (putL s (k, v)) from h1), look_putL hk]
  split
  ·rename_i h; simp only at h; subst h; rfl
  ·rfl
 ·rw [show mergeL s [(k, v)] = putL s (k, v) from rfl, look_putL hk, if_pos rfl]
theorem chg_back {x : Ac} {c : Ch} (hm : mayB x = true) (hm' : mayB (chgX x c) = true) (he : chgE x c = 0) : chgX (chgX x c) (chgU x c) = x ∧ chgE (chgX x c) (chgU x c) = 0 ∧ chgU (chgX x c) (chgU x c) = reC c := by
 rcases chg_kind he with h | h | h | h
 ·have e1 : chgX x c = { x with bal := c.val } := by unfold chgX; rw [if_pos h]
  have e2 : chgU x c = { chgB c with val := x.bal } := by unfold chgU; rw [if_pos h]
  have hk : ({ chgB c with val := x.bal } : Ch).kind = 1 := h
  rw [e1, e2]
  refine ⟨by unfold chgX; rw [if_pos hk], by unfold chgE; rw [if_pos hk], ?_⟩
  unfold chgU reC
  rw [if_pos hk, if_pos h]
  rfl
 ·have n1 : ¬ c.kind = 1 := by rw [h]; decide
  have e1 : chgX x c = { x with non := c.non } := by unfold chgX; rw [if_neg n1, if_pos h]
  have e2 : chgU x c = { chgB c with non := x.non } := by unfold chgU; rw [if_neg n1, if_pos h]
  have hk : ({ chgB c with non := x.non } : Ch).kind = 2 := h
  have nk : ¬ ({ chgB c with non := x.non } : Ch).kind = 1 := n1
  rw [e1, e2]
  refine ⟨by unfold chgX; rw [if_neg nk, if_pos hk], by unfold chgE; rw [if_neg nk, if_pos hk], ?_⟩
  unfold chgU reC
  rw [if_neg nk, if_pos hk, if_neg n1, if_pos h]
  rfl
 ·have n1 : ¬ c.kind = 1 := by rw [h]; decide
  have n2 : ¬ c.kind = 2 := by rw [h]; decide
  have e1 : chgX x c = { x with code := c.code } := by unfold chgX; rw [if_neg n1, if_neg n2, if_pos h]
  have e2 : chgU x c = { chgB c with code := x.code } := by unfold chgU; rw [if_neg n1, if_neg n2, if_pos h]
  have hk : ({ chgB c with code := x.code } : Ch).kind = 3 := h
  have nk : ¬ ({ chgB c with code := x.code } : Ch).kind = 1 := n1
  have nk2 : ¬ ({ chgB c with code := x.code } : Ch).kind = 2 := n2
  rw [e1, e2]
  refine ⟨by unfold chgX; rw [if_neg nk, if_neg nk2, if_pos hk], by unfold chgE; rw [if_neg nk, if_neg nk2, if_pos hk], ?_⟩
  unfold chgU reC
  rw [if_neg nk, if_neg nk2, if_pos hk, if_neg n1, if_neg n2, if_pos h]
  rfl
 ·have n1 : ¬ c.kind = 1 := by rw [h]; decide
  have n2 : ¬ c.kind = 2 := by rw [h]; decide
  have n3 : ¬ c.kind = 3 := by rw [h]; decide
  have hp : rightB' x.slots = true ∧ (mergeL x.slots [(c.key, c.val)]).length ≤ 1000 := by
   unfold chgE at he
   rw [if_neg n1, if_neg n2, if_neg n3, if_pos h] at he
   split at he
   ·rename_i h1
    split at he
    ·rename_i h2; exact ⟨h1, h2⟩
    ·exact absurd he (by decide)
   ·exact absurd he (by decide)
  have e1 : chgX x c = { x with slots := mergeL x.slots [(c.key, c.val)] } := by unfold chgX; rw [if_neg n1, if_neg n2, if_neg n3, if_pos h, if_pos hp.1, if_pos hp.2]
  have e2 : chgU x c = { ({ chgB c with key := c.key } : Ch) with val := look x.slots c.key } := by unfold chgU; rw [if_neg n1, if_neg n2, if_neg n3, if_pos h]
  rw [e1] at hm'
  have hr' := may_slots hm'
  simp only at hr'
  have hk0 := ((rightB_iff' _).1 hp.1)
  obtain ⟨mb1, mb2⟩ := merge_back hk0.2 c.key c.val
  have hk : ({ ({ chgB c with key := c.key } : Ch) with val := look x.slots c.key } : Ch).kind = 4 := h
  have m1 : ¬ ({ ({ chgB c with key := c.key } : Ch) with val := look x.slots c.key } : Ch).kind = 1 := n1
  have m2 : ¬ ({ ({ chgB c with key := c.key } : Ch) with val := look x.slots c.key } : Ch).kind = 2 := n2
  have m3 : ¬ ({ ({ chgB c with key := c.key } : Ch) with val := look x.slots c.key } : Ch).kind = 3 := n3
  rw [e1, e2]
  refine ⟨?_, ?_, ?_⟩
  ·unfold chgX
   rw [if_neg m1, if_neg m2, if_neg m3, if_pos hk]
   simp only
   rw [if_pos hr', mb1, if_pos hk0.1]
  ·unfold chgE
   rw [if_neg m1, if_neg m2, if_neg m3, if_pos hk]
   simp only
   rw [if_pos hr', mb1, if_pos hk0.1]
  ·unfold chgU reC
   rw [if_neg m1, if_neg m2, if_neg m3, if_pos hk, if_neg n1, if_neg n2, if_neg n3, if_pos h]
   simp only
   rw [mb2]
   rfl
theorem do_back {l : List Ac} {c : Ch} (h : doE l c = 0) : rightS (doL l c) = true ∧ doE (doL l c) (doU l c) = 0 ∧ doL (doL l c) (doU l c) = l ∧ doU (doL l c) (doU l c) = reC c := by
 obtain ⟨hr, hce, hmay, hput, hdl, hdu⟩ := do_parts h
 rw [hdl, hdu]
 have hrt := right_put hr hmay hput
 have hmx := right_may hr c.at_
 obtain ⟨b1, b2, b3⟩ := chg_back hmx hmay hce
 have hat : (chgX (findA l c.at_) c).at_ = c.at_ := by rw [chgX_at, findA_at]
 have hf : findA (putA l (chgX (findA l c.at_) c)) (chgU (findA l c.at_) c).at_ = chgX (findA l c.at_) c := by
  rw [chgU_at]
  have := find_put l (chgX (findA l c.at_) c)
  rwa [hat] at this
 have hp : putA (putA l (chgX (findA l c.at_) c)) (findA l c.at_) = l := by
  rw [put_put l (by rw [hat, findA_at]), put_find hr]
 have hl := ((rightS_iff l).1 hr).1
 have he : doE (putA l (chgX (findA l c.at_) c)) (chgU (findA l c.at_) c) = 0 := by
  unfold doE
  rw [if_neg (by rw [hrt]; decide), hf, b1, b2, if_neg (by decide), if_neg (by rw [hmx]; decide), hp, if_pos hl]
 refine ⟨hrt, he, ?_, ?_⟩
 ·unfold doL
  rw [if_pos he, hf, b1, hp]
 ·unfold doU
  rw [if_pos he, hf, b3]
structure StI (j : Nat) (l : List Ac) : Prop where
 right : rightS l = true
 len : l.length ≤ j
 slots : ∀ x ∈ l, x.slots.length ≤ j
theorem StI.nil : StI 0 [] := ⟨rightS_nil0, by simp, fun x hx => by cases hx⟩
theorem chN_ok (a b c d : Int) : ChOk (chN a b c d) := by
 have h := pickN_range b 9 (by decide)
 have h1 := pickN_range c 1000 (by decide)
 have h2 := pickN_range c 4 (by decide)
 have h3 := pickN_range c 5 (by decide)
 have h4 := pickN_range d 3 (by decide)
 have hz : W256 0 := by unfold W256; decide
 have hi : I64 0 := by unfold I64; decide
 have hc : (⟨#[]⟩ : ByteArray).size ≤ 140737488355328 := by decide
 unfold chN
 split
 ·exact ⟨(show I64 1 by unfold I64; decide), adrN_lt h.2, hz, by show W256 (pickN c 1000).toNat; unfold W256; omega, hi, hc⟩
 split
 ·exact ⟨(show I64 2 by unfold I64; decide), adrN_lt h.2, hz, hz, by show I64 (pickN c 4); unfold I64; omega, hc⟩
 split
 ·refine ⟨(show I64 3 by unfold I64; decide), adrN_lt h.2, hz, hz, hi, ?_⟩
  show (codeN (pickN c 4)).size ≤ 140737488355328
  unfold codeN
  split
  ·decide
  split
  ·decide
  split
  ·decide
  ·decide
 ·exact ⟨(show I64 4 by unfold I64; decide), adrN_lt h.2, by show W256 (pickN c 5).toNat; unfold W256; omega, by show W256 (pickN d 3).toNat; unfold W256; omega, hi, hc⟩
theorem merge_grow (s : List Sl) (x : Sl) : (mergeL s [x]).length ≤ s.length + 1 := by
 have h1 := listF_len behindF (bothL s [x])
 have h2 := bothL_len s [x]
 simp at h2
 unfold mergeL
 omega
theorem find_slots {l : List Ac} {j : Nat} (h : ∀ x ∈ l, x.slots.length ≤ j) (t : Nat) : (findA l t).slots.length ≤ j := by
 unfold findA
 cases hf : l.find? (fun x => decide (x.at_ = t)) with
 | none => exact Nat.zero_le _
 | some x => exact h x (List.mem_of_find?_eq_some hf)
theorem may_with {x : Ac} (h : mayB x = true) : 0 ≤ x.non ∧ x.non ≤ 9007199254740992 ∧ x.code.size ≤ 24576 ∧ rightB' x.slots = true := by
 unfold mayB at h
 simp only [Bool.and_eq_true, decide_eq_true_eq] at h
 exact h
theorem may_of' {x : Ac} (h1 : 0 ≤ x.non) (h2 : x.non ≤ 9007199254740992) (h3 : x.code.size ≤ 24576) (h4 : rightB' x.slots = true) : mayB x = true := by
 unfold mayB
 rw [decide_eq_true h1, decide_eq_true h2, decide_eq_true h3, h4]
 rfl
theorem chN_good {x : Ac} (hm : mayB x = true) {j : Nat} (hj : j ≤ 900) (hs : x.slots.length ≤ j) (a b c d : Int) : chgE x (chN a b c d) = 0 ∧ mayB (chgX x (chN a b c d)) = true ∧ (chgX x (chN a b c d)).slots.length ≤ j + 1 := by
 obtain ⟨m1, m2, m3, m4⟩ := may_with hm
 have h2 := pickN_range c 4 (by decide)
 unfold chN
 split
 ·exact ⟨rfl, may_of' m1 m2 m3 m4, Nat.le_succ_of_le hs⟩
 split
 ·exact ⟨rfl, may_of' (x := { x with non := pickN c 4 }) (by show 0 ≤ pickN c 4; omega) (by show pickN c 4 ≤ _; omega) m3 m4, Nat.le_succ_of_le hs⟩
 split
 ·refine ⟨rfl, may_of' (x := { x with code := codeN (pickN c 4) }) m1 m2 ?_ m4, Nat.le_succ_of_le hs⟩
  show (codeN (pickN c 4)).size ≤ 24576
  unfold codeN
  split
  ·decide
  split
  ·decide
  split
  ·decide
  ·decide
 ·generalize hk : (pickN c 5).toNat = k
  generalize hv : (pickN d 3).toNat = v
  have hg := merge_grow x.slots (k, v)
  have hlen : (mergeL x.slots [(k, v)]).length ≤ 1000 := by omega
  have hkp := ((rightB_iff' _).1 m4).2
  have hr : rightB' (mergeL x.slots [(k, v)]) = true := (rightB_iff' _).2 ⟨by omega, mergeL_kept hkp.1 (rise_one _)⟩
  have hX : chgX x ⟨4, adrN (pickN b 9), k, v, 0, ⟨#[]⟩⟩ = { x with slots := mergeL x.slots [(k, v)] } := by
   unfold chgX
   rw [if_neg (show ¬ (4 : Int) = 1 by decide), if_neg (show ¬ (4 : Int) = 2 by decide), if_neg (show ¬ (4 : Int) = 3 by decide), if_pos rfl, if_pos m4, if_pos hlen]
  rw [hX]
  refine ⟨?_, may_of' m1 m2 m3 hr, by show (mergeL x.slots [(k, v)]).length ≤ _; omega⟩
  unfold chgE
  rw [if_neg (show ¬ (4 : Int) = 1 by decide), if_neg (show ¬ (4 : Int) = 2 by decide), if_neg (show ¬ (4 : Int) = 3 by decide), if_pos rfl, if_pos m4, if_pos hlen]
theorem StI.do {j : Nat} {l : List Ac} (h : StI j l) (hj : j ≤ 150) (a b c d : Int) : doE l (chN a b c d) = 0 ∧ StI (j + 1) (doL l (chN a b c d)) := by
 obtain ⟨g1, g2, g3⟩ := chN_good (right_may h.right (chN a b c d).at_) (by omega) (find_slots h.slots _) a b c d
 have hp := putA_grow l (chgX (findA l (chN a b c d).at_) (chN a b c d))
 have hl := h.len
 have he : doE l (chN a b c d) = 0 := by
  unfold doE
  rw [if_neg (by rw [h.right]; decide), if_neg (by rw [g1]; decide), if_neg (by rw [g2]; decide), if_pos (by omega)]
 refine ⟨he, (do_back he).1, ?_, ?_⟩
 ·rw [(do_parts he).2.2.2.2.1]
  omega
 ·rw [(do_parts he).2.2.2.2.1]
  intro x hx
  rcases mem_putA hx with hx | rfl
  ·have := h.slots x hx
   omega
  ·exact g3
abbrev Q4 := Nat → Int
noncomputable def stepS (s : List Ac) (z : Q4) : List Ac := doL s (chN (z 0) (z 1) (z 2) (z 3))
noncomputable def stN (zs : List Q4) : List Ac := (zs.take 30).foldl stepS []
theorem stepS_inv (zs : List Q4) : ∀ (l : List Ac) (j : Nat), StI j l → j + zs.length ≤ 150 → StI (j + zs.length) (zs.foldl stepS l) := by
 induction zs with
 | nil => intro l j h _; exact h
 | cons z r ih =>
  intro l j h hl
  simp only [List.length_cons] at hl
  rw [List.foldl_cons, List.length_cons, show j + (r.length + 1) = (j + 1) + r.length by omega]
  exact ih _ _ (h.do (by omega) (z 0) (z 1) (z 2) (z 3)).2 (by omega)
theorem stN_inv (zs : List Q4) : StI 30 (stN zs) := by
 have hl : (zs.take 30).length ≤ 30 := List.length_take_le _ _
 have h := stepS_inv (zs.take 30) [] 0 StI.nil (by omega)
 exact ⟨h.right, by have := h.len; unfold stN; omega, fun x hx => by have := h.slots x hx; omega⟩
end
section
open Go Go.RowKit
attribute [local go_sem] Oper.semAt_some Grows wide_fn
def stI (l : List Ac) : It := .mk true ⟨#[]⟩ (l.map acI)
theorem head9 {kind n : Nat} (h : n < 2 ^ 63) : (headL kind n).length ≤ 9 := by
 unfold headL
 have h8 : (digs n).length ≤ 8 := digs_length (Nat.lt_trans h (by decide))
 split <;> simp only [List.length_cons, List.length_nil] <;> omega
theorem enc_txt (b : ByteArray) (h : b.size < 2 ^ 63) : (encI (txtI b)).length ≤ 9 + b.size := by
 have hl : b.data.toList.length = b.size := by simp
 unfold txtI
 rcases hB : bareB b.data.toList with _ | _
 ·rw [encI_text b hB, List.length_append, hl]
  have := head9 (kind := 128) h
  omega
 ·rw [encI_bare b hB, hl]; omega
theorem digs32 {a : Nat} (ha : W256 a) : (⟨(digs a).toArray⟩ : ByteArray).size ≤ 32 := by
 have : (digs a).length ≤ 32 := digs_length (by unfold W256 at ha; exact Nat.lt_of_lt_of_le ha (by decide))
 show (digs a).toArray.size ≤ _
 rw [List.size_toArray]; omega
theorem enc_num {a : Nat} (ha : W256 a) : (encI (numI a)).length ≤ 41 := by
 have h := digs32 ha
 have := enc_txt ⟨(digs a).toArray⟩ (by omega)
 unfold numI
 omega
theorem encL_le {α : Type} (f : α → It) (m : Nat) : ∀ (l : List α), (∀ x ∈ l, (encI (f x)).length ≤ m) → (encL (l.map f)).length ≤ l.length * m
 | [], _ => by simp [encL]
 | x :: l, h => by
  have h1 := h x (by simp)
  have h2 := encL_le f m l (fun y hy => h y (by simp [hy]))
  rw [List.map_cons, encL, List.length_append, List.length_cons, Nat.add_mul]
  omega
theorem countL_is {α : Type} (f : α → It) (m : Nat) : ∀ (l : List α), (∀ x ∈ l, countI (f x) ≤ m) → countL (l.map f) ≤ l.length * m
 | [], _ => by simp [countL]
 | x :: l, h => by
  have h1 := h x (by simp)
  have h2 := countL_is f m l (fun y hy => h y (by simp [hy]))
  rw [List.map_cons, countL, List.length_cons, Nat.add_mul]
  omega
theorem count_txt (b : ByteArray) : countI (txtI b) = 1 := by unfold txtI; rw [countI, countL]
theorem count_slot (x : Sl) : countI (slotI x) = 3 := by
 unfold slotI numI
 rw [countI, countL, countL, countL, count_txt, count_txt]
theorem enc_slot {x : Sl} (h : W256 x.1 ∧ W256 x.2) : (encI (slotI x)).length ≤ 100 := by
 have h1 := enc_num h.1
 have h2 := enc_num h.2
 unfold slotI
 rw [encI_list, List.length_append, encL, encL, encL, List.append_nil]
 have := head9 (kind := 192) (n := (encI (numI x.1) ++ encI (numI x.2)).length) (by rw [List.length_append]; omega)
 rw [List.length_append] at this ⊢
 omega
theorem ac_great {x : Ac} {k : Nat} (hx : AcOk x) (hw : ∀ y ∈ x.slots, W256 y.1 ∧ W256 y.2) (hc : x.code.size ≤ 24576) (hk : x.slots.length ≤ k) (hk2 : k ≤ 100000) : countI (acI x) ≤ 6 + 3 * k ∧ (encI (acI x)).length ≤ 24800 + 100 * k := by
 have c1 := countL_is slotI 3 x.slots (fun y _ => Nat.le_of_eq (count_slot y))
 have e1 := encL_le slotI 100 x.slots (fun y hy => enc_slot (hw y hy))
 have hm := Nat.mul_le_mul_right 3 hk
 have hm2 := Nat.mul_le_mul_right 100 hk
 have hsl : (encI (.mk true ⟨#[]⟩ (x.slots.map slotI))).length ≤ 9 + x.slots.length * 100 := by
  rw [encI_list, List.length_append]
  have := head9 (kind := 192) (n := (encL (x.slots.map slotI)).length) (by omega)
  omega
 have t0 := enc_txt (adT x.at_) (by rw [adT_size]; decide)
 rw [adT_size] at t0
 have t1 := enc_num (ofN_lt x.non hx.non)
 have t2 := enc_num hx.bal
 have t3 := enc_txt x.code (by omega)
 constructor
 ·unfold acI numI
  rw [countI, countL, countL, countL, countL, countL, countL, count_txt, count_txt, count_txt, count_txt, countI]
  omega
 ·unfold acI
  rw [encI_list, List.length_append, encL, encL, encL, encL, encL, encL, List.append_nil]
  simp only [List.length_append]
  have := head9 (kind := 192) (n := (encI (txtI (adT x.at_))).length + ((encI (numI (ofN x.non))).length + ((encI (numI x.bal)).length + ((encI (txtI x.code)).length + (encI (.mk true ⟨#[]⟩ (x.slots.map slotI))).length)))) (by omega)
  omega
theorem st_great {l : List Ac} {n k : Nat} (ho : ∀ x ∈ l, AcOk x ∧ (∀ y ∈ x.slots, W256 y.1 ∧ W256 y.2) ∧ x.code.size ≤ 24576 ∧ x.slots.length ≤ k) (hl : l.length ≤ n) (hn : n ≤ 1000) (hk2 : k ≤ 100000) : countI (stI l) ≤ 1 + n * (6 + 3 * k) ∧ (encI (stI l)).length ≤ 9 + n * (24800 + 100 * k) := by
 have c1 := countL_is acI (6 + 3 * k) l (fun x hx => (ac_great (ho x hx).1 (ho x hx).2.1 (ho x hx).2.2.1 (ho x hx).2.2.2 hk2).1)
 have e1 := encL_le acI (24800 + 100 * k) l (fun x hx => (ac_great (ho x hx).1 (ho x hx).2.1 (ho x hx).2.2.1 (ho x hx).2.2.2 hk2).2)
 have m1 := Nat.mul_le_mul_right (6 + 3 * k) hl
 have m2 := Nat.mul_le_mul_right (24800 + 100 * k) hl
 have m3 : n * (24800 + 100 * k) ≤ 1000 * (24800 + 100 * 100000) := Nat.mul_le_mul hn (by omega)
 unfold stI
 constructor
 ·rw [countI]; omega
 ·rw [encI_list, List.length_append]
  have := head9 (kind := 192) (n := (encL (l.map acI)).length) (by omega)
  omega
theorem right_txt (d : Nat) (b : ByteArray) : RightI (d + 1) (txtI b) := ⟨(fun h => by cases h), fun _ => rfl, (fun k h => by cases h)⟩
theorem right_list (d : Nat) (ks : List It) (h : ∀ k ∈ ks, RightI d k) : RightI (d + 1) (.mk true ⟨#[]⟩ ks) := ⟨fun _ => rfl, (fun h => by cases h), h⟩
theorem st_right (l : List Ac) : RightI 16 (stI l) := by
 refine right_list 15 _ (fun k hk => ?_)
 obtain ⟨x, _, rfl⟩ := List.mem_map.1 hk
 refine right_list 14 _ (fun k hk => ?_)
 simp only [List.mem_cons, List.not_mem_nil, or_false] at hk
 rcases hk with rfl | rfl | rfl | rfl | rfl
 ·exact right_txt _ _
 ·exact right_txt _ _
 ·exact right_txt _ _
 ·exact right_txt _ _
 ·refine right_list 13 _ (fun k hk => ?_)
  obtain ⟨y, _, rfl⟩ := List.mem_map.1 hk
  refine right_list 12 _ (fun k hk => ?_)
  simp only [List.mem_cons, List.not_mem_nil, or_false] at hk
  rcases hk with rfl | rfl
  ·exact right_txt _ _
  ·exact right_txt _ _
noncomputable def digE (l : List Ac) : Nat := if rightS l = true then encE (stI l) else 1
noncomputable def digS (l : List Ac) : ByteArray := if digE l = 0 then sumS ⟨(encI (stI l)).toArray⟩ else ⟨#[]⟩
theorem right_allS {l : List Ac} (h : rightS l = true) : l.length ≤ 200 ∧ ∀ x ∈ l, x.code.size ≤ 24576 ∧ x.slots.length ≤ 1000 := by
 obtain ⟨h1, _, h3⟩ := (rightS_iff l).1 h
 refine ⟨h1, fun x hx => ?_⟩
 have := h3 x hx
 unfold strayB at this
 rw [Bool.or_eq_false_iff] at this
 have hm : mayB x = true := by simpa using this.2
 obtain ⟨_, _, h5, h6⟩ := may_with hm
 exact ⟨h5, ((rightB_iff' _).1 h6).1⟩
theorem StAt.slotsWide {W : World} {v : Value} {l : List Ac} (h : StAt W v l) : ∀ x ∈ l, ∀ y ∈ x.slots, W256 y.1 ∧ W256 y.2 := fun x hx => by
 obtain ⟨a, cap, h1, h2, h3, h4, h5⟩ := h
 obtain ⟨i, hi⟩ := List.getElem?_of_mem hx
 obtain ⟨b, sv, e, hs, hc⟩ := h5 i x hi
 exact hs.wideAll
theorem digest_any (W : World) (hT : Tab W) (sv : Value) (l : List Ac) (hs : StAt W sv l) :
  Calls Tryz.prog 25 #[sv] W fun e w' => e = .returned (.tuple #[.string (digS l), .int .i64 (digE l : Int)]) ∧ Below W.heap.size W w' := by
 have hok : ∀ x ∈ l, AcOk x := by obtain ⟨a, cap, _, _, _, h4, _⟩ := hs; exact h4
 have hwide := hs.slotsWide
 obtain ⟨a, cap, rfl, _, _⟩ := hs.shape
 obtain ⟨N, hN⟩ : ∃ N, l.length = N := ⟨_, rfl⟩
 rw [hN] at hs ⊢
 have HT := hid hT
 have HS := hid hs
 have HR := hid (right_st W _ l hs)
 clear hT
 by_cases hr : rightS l = true
 ·obtain ⟨r1, r2⟩ := right_allS hr
  obtain ⟨g1, g2⟩ := st_great (n := 200) (k := 1000) (fun x hx => ⟨hok x hx, hwide x hx, (r2 x hx).1, (r2 x hx).2⟩) r1 (by omega) (by omega)
  have hde : digE l = encE (stI l) := by unfold digE; rw [if_pos hr]
  rw [hr] at HR
  have HLI := hid (fun (X : World) (hX : Below W.heap.size W X) => alist_any a cap N l hN X (HS.out.later hX) (fun x hx => by have := (r2 x hx).2; omega) (by omega))
  have HG := hid (show countI (stI l) ≤ 1099511627776 ∧ (encI (stI l)).length ≤ 2305843009213693952 by omega)
  have HDE := hid hde
  clear g1 g2 r1 r2 hr hs hok hwide hN hde
  go_enter Tryz.func25, Tryz.ntmps25
  go_wp2_with fail
  refine HR.out.mono ?_
  rintro _ w1 ⟨rfl, q1⟩
  have Q1 := hid q1
  have HL := hid (HLI.out w1 q1)
  clear q1 HR HLI
  go_wp2_with fail
  refine HL.out.mono ?_
  rintro _ w2 ⟨v, rfl, hI, q2⟩
  have Q2 := hid (Q1.out.trans (q2.mono Q1.out.size))
  have HE := hid (encode_any (stI l) HG.out.1 HG.out.2 v w2 hI.at)
  clear hI q2 HL
  by_cases he : encE (stI l) = 0
  ·have hlen : (encI (stI l)).length ≤ 1048576 := by
    unfold encE at he
    split at he
    ·split at he
     ·assumption
     ·exact absurd he (by decide)
    ·exact absurd he (by decide)
   have hde : digE l = 0 := by rw [HDE.out, he]
   have hds : digS l = sumS ⟨(encI (stI l)).toArray⟩ := by unfold digS; rw [if_pos hde]
   rw [he, encS_good he] at HE
   have HD1 := hid hde
   have HD2 := hid hds
   have HSM := hid (sum_ret ⟨(encI (stI l)).toArray⟩ (by show (encI (stI l)).toArray.size ≤ _; rw [List.size_toArray]; exact hlen))
   unfold strV at HE
   generalize (⟨(encI (stI l)).toArray⟩ : ByteArray) = tx at *
   clear hlen he hde hds HDE HG
   go_wp2_with fail
   refine HE.out.mono ?_
   rintro _ w3 ⟨rfl, q3⟩
   have Q3 := hid (Q2.out.trans (q3.mono Q2.out.size))
   have HSS := hid (HSM.out w3 (HT.out.later Q3.out))
   clear q3 HE
   go_wp2_with fail
   refine HSS.out.mono ?_
   rintro _ w4 ⟨rfl, q4⟩
   have Q4 := hid (Q3.out.trans (q4.mono Q3.out.size))
   clear q4 HSS
   go_wp2_with fail
   go_ret2
   exact ⟨by rw [HD2.out, HD1.out]; rfl, Q4.out⟩
  ·have hds : digS l = ⟨#[]⟩ := by unfold digS; rw [if_neg (by rw [HDE.out]; exact he)]
   have he2 : encE (stI l) ≤ 2 := by unfold encE; split <;> (try split) <;> decide
   have HD2 := hid hds
   have HD1 := hid HDE.out
   have heI : ((encE (stI l) : Nat) : Int) ≠ 0 := by omega
   have heI2 : ((encE (stI l) : Nat) : Int) ≤ 2 := by omega
   have hbq : (((encE (stI l) : Nat) : Int) == 0) = false := by rw [beq_eq_false_iff_ne]; exact heI
   unfold strV at HE
   obtain ⟨eN, hEN⟩ : ∃ eN, encE (stI l) = eN := ⟨_, rfl⟩
   rw [hEN] at HE HD1 heI heI2 hbq
   clear hEN HDE
   obtain ⟨eI, hEI⟩ : ∃ eI, ((eN : Nat) : Int) = eI := ⟨_, rfl⟩
   rw [hEI] at HE heI heI2 hbq
   have HEI := hid hEI
   clear hEI
   generalize encS (stI l) = es at *
   clear he he2 hds HG
   go_wp2_with fail
   refine HE.out.mono ?_
   rintro _ w3 ⟨rfl, q3⟩
   have Q3 := hid (Q2.out.trans (q3.mono Q2.out.size))
   clear q3 HE
   go_wp2_with fail
   go_ret2
   exact ⟨by rw [HD2.out, HD1.out, HEI.out]; rfl, Q3.out⟩
 ·have hde : digE l = 1 := by unfold digE; rw [if_neg hr]
  have hds : digS l = ⟨#[]⟩ := by unfold digS; rw [if_neg (by rw [hde]; decide)]
  rw [hde, hds]
  rw [show rightS l = false by simpa using hr] at HR
  clear hr hs hok hwide hN hde hds
  go_enter Tryz.func25, Tryz.ntmps25
  go_wp2_with fail
  refine HR.out.mono ?_
  rintro _ w1 ⟨rfl, q1⟩
  have Q1 := hid q1
  clear q1 HR
  go_wp2_with fail
  go_ret2
  exact ⟨rfl, Q1.out⟩
theorem dig_good {l : List Ac} (hr : rightS l = true) (hc : countI (stI l) ≤ 5000) (hl : (encI (stI l)).length ≤ 1048576) : digE l = 0 ∧ (digS l).size = 32 := by
 have hok : okI (stI l) = true := by
  unfold okI
  rw [(rightB_iff 16 _).2 (st_right l), decide_eq_true hc]
  rfl
 have he : digE l = 0 := by unfold digE; rw [if_pos hr, encE_good hok hl]
 refine ⟨he, ?_⟩
 unfold digS
 rw [if_pos he]
 exact sumS_size _
end
section
open Go Go.RowKit
attribute [local go_sem] Oper.semAt_some Grows wide_fn eq4
end
section
open Go Go.RowKit
theorem find_other (l : List Ac) (x : Ac) {t : Nat} (h : t ≠ x.at_) : findA (putA l x) t = findA l t := by
 have e : (putA l x).find? (fun y => decide (y.at_ = t)) = l.find? (fun y => decide (y.at_ = t)) := by
  have hx : ((if emptyB x = true then ([] : List Ac) else [x]).find? (fun y => decide (y.at_ = t))) = none := by
   split
   ·rfl
   ·rw [List.find?_cons_of_neg (by simp; omega)]; rfl
  have key : ∀ l : List Ac, ((l.filter (fun y => decide (y.at_ < x.at_))).find? (fun y => decide (y.at_ = t))).or ((l.filter (fun y => decide (x.at_ < y.at_))).find? (fun y => decide (y.at_ = t))) = l.find? (fun y => decide (y.at_ = t)) := by
   intro l
   have none_of : ∀ q : Ac → Bool, (∀ y, q y = true → y.at_ ≠ t) → (l.filter q).find? (fun y => decide (y.at_ = t)) = none := fun q hq => by
    rw [List.find?_eq_none]
    intro y hy
    simpa using hq y (List.mem_filter.1 hy).2
   have some_of : ∀ q : Ac → Bool, (∀ y, y.at_ = t → q y = true) → (l.filter q).find? (fun y => decide (y.at_ = t)) = l.find? (fun y => decide (y.at_ = t)) := fun q hq => by
    rw [List.find?_filter]
    congr 1
    funext y
    rw [Bool.eq_iff_iff]
    simp only [decide_eq_true_eq]
    exact ⟨fun h => h.2, fun h => ⟨hq y h, h⟩⟩
   rcases Nat.lt_trichotomy t x.at_ with h1 | h1 | h1
   ·rw [none_of (fun y => decide (x.at_ < y.at_)) (fun y hy => by simp at hy; omega), some_of (fun y => decide (y.at_ < x.at_)) (fun y hy => by simp; omega), Option.or_none]
   ·exact absurd h1 h
   ·rw [none_of (fun y => decide (y.at_ < x.at_)) (fun y hy => by simp at hy; omega), some_of (fun y => decide (x.at_ < y.at_)) (fun y hy => by simp; omega), Option.none_or]
  unfold putA
  rw [List.find?_append, List.find?_append, hx, Option.or_none]
  exact key l
 unfold findA
 rw [e]
theorem put_comm_lt (l : List Ac) {x y : Ac} (h : x.at_ < y.at_) : putA (putA l x) y = putA (putA l y) x := by
 have ex : ∀ q : Ac → Bool, q x = true → (if emptyB x = true then ([] : List Ac) else [x]).filter q = if emptyB x = true then [] else [x] := fun q hq => by
  split
  ·rfl
  ·rw [List.filter_cons_of_pos hq]; rfl
 have ex0 : ∀ q : Ac → Bool, q x = false → (if emptyB x = true then ([] : List Ac) else [x]).filter q = [] := fun q hq => by
  split
  ·rfl
  ·rw [List.filter_cons_of_neg (by rw [hq]; decide)]; rfl
 have ey : ∀ q : Ac → Bool, q y = true → (if emptyB y = true then ([] : List Ac) else [y]).filter q = if emptyB y = true then [] else [y] := fun q hq => by
  split
  ·rfl
  ·rw [List.filter_cons_of_pos hq]; rfl
 have ey0 : ∀ q : Ac → Bool, q y = false → (if emptyB y = true then ([] : List Ac) else [y]).filter q = [] := fun q hq => by
  split
  ·rfl
  ·rw [List.filter_cons_of_neg (by rw [hq]; decide)]; rfl
 have cong : ∀ p q : Ac → Bool, (∀ z, p z = q z) → l.filter p = l.filter q := fun p q hpq => List.filter_congr fun z _ => hpq z
 have none : ∀ p : Ac → Bool, (∀ z, p z = false) → l.filter p = [] := fun p hp => by
  rw [List.filter_eq_nil_iff]; intro z _; rw [hp z]; decide
 have e1 : (putA l x).filter (fun z => decide (z.at_ < y.at_)) = l.filter (fun z => decide (z.at_ < x.at_)) ++ (if emptyB x = true then [] else [x]) ++ l.filter (fun z => decide (x.at_ < z.at_) && decide (z.at_ < y.at_)) := by
  unfold putA
  rw [List.filter_append, List.filter_append, List.filter_filter, List.filter_filter, ex _ (by simpa using h)]
  congr 1
  ·congr 1
   exact cong _ _ fun z => by rw [Bool.eq_iff_iff]; simp; omega
  ·exact cong _ _ fun z => by rw [Bool.and_comm]
 have e2 : (putA l x).filter (fun z => decide (y.at_ < z.at_)) = l.filter (fun z => decide (y.at_ < z.at_)) := by
  unfold putA
  rw [List.filter_append, List.filter_append, List.filter_filter, List.filter_filter, ex0 _ (by simp; omega), none _ (fun z => by rw [Bool.eq_false_iff]; simp; omega), List.nil_append, List.nil_append]
  exact cong _ _ fun z => by rw [Bool.eq_iff_iff]; simp; omega
 have e3 : (putA l y).filter (fun z => decide (z.at_ < x.at_)) = l.filter (fun z => decide (z.at_ < x.at_)) := by
  unfold putA
  rw [List.filter_append, List.filter_append, List.filter_filter, List.filter_filter, ey0 _ (by simp; omega), none (fun z => decide (z.at_ < x.at_) && decide (y.at_ < z.at_)) (fun z => by rw [Bool.eq_false_iff]; simp; omega), List.append_nil, List.append_nil]
  exact cong _ _ fun z => by rw [Bool.eq_iff_iff]; simp; omega
 have e4 : (putA l y).filter (fun z => decide (x.at_ < z.at_)) = l.filter (fun z => decide (x.at_ < z.at_) && decide (z.at_ < y.at_)) ++ (if emptyB y = true then [] else [y]) ++ l.filter (fun z => decide (y.at_ < z.at_)) := by
  unfold putA
  rw [List.filter_append, List.filter_append, List.filter_filter, List.filter_filter, ey _ (by simpa using h)]
  congr 1
  exact cong _ _ fun z => by rw [Bool.eq_iff_iff]; simp; omega
 rw [show putA (putA l x) y = (putA l x).filter (fun z => decide (z.at_ < y.at_)) ++ (if emptyB y = true then [] else [y]) ++ (putA l x).filter (fun z => decide (y.at_ < z.at_)) from rfl, e1, e2,
  show putA (putA l y) x = (putA l y).filter (fun z => decide (z.at_ < x.at_)) ++ (if emptyB x = true then [] else [x]) ++ (putA l y).filter (fun z => decide (x.at_ < z.at_)) from rfl, e3, e4]
 simp only [List.append_assoc]
theorem put_comm (l : List Ac) {x y : Ac} (h : x.at_ ≠ y.at_) : putA (putA l x) y = putA (putA l y) x := by
 rcases Nat.lt_or_gt_of_ne h with h | h
 ·exact put_comm_lt l h
 ·exact (put_comm_lt l h).symm
structure GoodC (c : Ch) : Prop where
 ok : ChOk c
 good : ∀ (x : Ac) (j : Nat), mayB x = true → j ≤ 900 → x.slots.length ≤ j → chgE x c = 0 ∧ mayB (chgX x c) = true ∧ (chgX x c).slots.length ≤ j + 1
theorem StI.doG {j : Nat} {l : List Ac} (h : StI j l) (hj : j ≤ 150) {c : Ch} (hc : GoodC c) : doE l c = 0 ∧ StI (j + 1) (doL l c) := by
 obtain ⟨g1, g2, g3⟩ := hc.good _ j (right_may h.right c.at_) (by omega) (find_slots h.slots _)
 have hp := putA_grow l (chgX (findA l c.at_) c)
 have hl := h.len
 have he : doE l c = 0 := by
  unfold doE
  rw [if_neg (by rw [h.right]; decide), if_neg (by rw [g1]; decide), if_neg (by rw [g2]; decide), if_pos (by omega)]
 refine ⟨he, (do_back he).1, ?_, ?_⟩
 ·rw [(do_parts he).2.2.2.2.1]
  omega
 ·rw [(do_parts he).2.2.2.2.1]
  intro x hx
  rcases mem_putA hx with hx | rfl
  ·have := h.slots x hx
   omega
  ·exact g3
theorem do_comm {l : List Ac} {c d : Ch} (h : StI 30 l) (hc : GoodC c) (hd : GoodC d) (hne : c.at_ ≠ d.at_) : doL (doL l c) d = doL (doL l d) c := by
 obtain ⟨a1, a2⟩ := h.doG (by decide) hc
 obtain ⟨a3, _⟩ := a2.doG (by decide) hd
 obtain ⟨b1, b2⟩ := h.doG (by decide) hd
 obtain ⟨b3, _⟩ := b2.doG (by decide) hc
 have x1 : (chgX (findA l c.at_) c).at_ = c.at_ := by rw [chgX_at, findA_at]
 have y1 : (chgX (findA l d.at_) d).at_ = d.at_ := by rw [chgX_at, findA_at]
 rw [(do_parts a3).2.2.2.2.1, (do_parts b3).2.2.2.2.1, (do_parts a1).2.2.2.2.1, (do_parts b1).2.2.2.2.1, find_other l _ (by rw [x1]; exact fun e => hne e.symm), find_other l _ (by rw [y1]; exact hne)]
 exact put_comm l (by rw [x1, y1]; exact hne)
theorem chN_at (a b c d : Int) : (chN a b c d).at_ = adrN (pickN b 9) := by
 unfold chN
 split
 ·rfl
 split
 ·rfl
 split
 ·rfl
 ·rfl
theorem chN_goodC (a b c d : Int) : GoodC (chN a b c d) := ⟨chN_ok a b c d, fun _ _ hm hj hs => chN_good hm hj hs a b c d⟩
def dN (c d : Ch) : Ch := if c.at_ = d.at_ then { d with at_ := d.at_ + 77 * 256 ^ 14 } else d
theorem adrN_low9 {k : Int} (h0 : 0 ≤ k) (h : k < 9) : adrN k < 256 ^ 19 + 9 := by
 unfold adrN
 split <;> omega
theorem GoodC.at {c : Ch} (h : GoodC c) {n : Nat} (hn : n < 256 ^ 20) : GoodC { c with at_ := n } :=
 ⟨⟨h.ok.kind, hn, h.ok.key, h.ok.val, h.ok.non, h.ok.code⟩, fun x j hm hj hs => h.good x j hm hj hs⟩
theorem dN_good {c : Ch} (a b e f : Int) : GoodC (dN c (chN a b e f)) ∧ c.at_ ≠ (dN c (chN a b e f)).at_ := by
 obtain ⟨k0, k1⟩ := pickN_range b 9 (by decide)
 have hl := adrN_low9 k0 k1
 have hat := chN_at a b e f
 unfold dN
 split
 ·rename_i h
  refine ⟨(chN_goodC a b e f).at (by rw [hat]; omega), ?_⟩
  show c.at_ ≠ (chN a b e f).at_ + 77 * 256 ^ 14
  rw [h]
  omega
 ·rename_i h
  exact ⟨chN_goodC a b e f, h⟩
theorem adL5 {k : Int} (h0 : 0 ≤ k) (h : k < 9) : adL (adrN k + 77 * 256 ^ 14) = (adL (adrN k)).set 5 (.int .u8 77) := by
 have hk : k = 0 ∨ k = 1 ∨ k = 2 ∨ k = 3 ∨ k = 4 ∨ k = 5 ∨ k = 6 ∨ k = 7 ∨ k = 8 := by omega
 rcases hk with rfl | rfl | rfl | rfl | rfl | rfl | rfl | rfl | rfl
 all_goals
  clear h0 h
  show List.map _ _ = List.set (List.map _ _) _ _
  rfl
theorem Has.chAt5 {W : World} {B : Nat} {t : TypeId} {d : Ch} (h : Has W B t (chC d)) {k : Int} (h0 : 0 ≤ k) (h1 : k < 9) (hd : d.at_ = adrN k) : Has (W.setCell ⟨B, 6, none⟩ (.int .u8 77)) B t (chC { d with at_ := d.at_ + 77 * 256 ^ 14 }) := by
 have := h.set 6 (.int .u8 77)
 have e : (chC d).setIfInBounds 6 (.int .u8 77) = chC { d with at_ := d.at_ + 77 * 256 ^ 14 } := by
  unfold chC chL
  rw [List.setIfInBounds_toArray, List.set_cons_succ, List.set_append_left _ _ (by rw [adL_len]; decide)]
  simp only [hd, adL5 h0 h1]
  rfl
 rwa [e] at this
theorem dig_of {W : World} {v : Value} {m : List Ac} (h : StAt W v m) (hi : StI 32 m) : digE m = 0 ∧ (digS m).size = 32 := by
 have hok : ∀ x ∈ m, AcOk x := by obtain ⟨a, cap, _, _, _, h4, _⟩ := h; exact h4
 have hw := h.slotsWide
 obtain ⟨_, r2⟩ := right_allS hi.right
 obtain ⟨g1, g2⟩ := st_great (n := 32) (k := 32) (fun x hx => ⟨hok x hx, hw x hx, (r2 x hx).1, hi.slots x hx⟩) hi.len (by decide) (by decide)
 exact dig_good hi.right (by omega) (by omega)
end
section
open Go Go.RowKit
attribute [local go_sem] Oper.semAt_some Grows wide_fn eq4
theorem refPatch_any (W : World) (sv : Value) (l : List Sl) (hs : SlotsAt W sv l) :
  Calls Tryz.prog 89 #[sv] W fun e w' => e = .returned (.bool (patchB l)) ∧ Below W.heap.size W w' := by
 have hmx : Tryz.prog.follows .mixedOrders = true := by kernel_rfl
 obtain ⟨a, cap, rfl, hnc, hcm⟩ := hs.shape
 have HS := hid hs
 obtain ⟨n, hn⟩ : ∃ n, l.length = n := ⟨_, rfl⟩
 rw [hn] at HS hnc ⊢
 have HN := hid hn
 have hlc := hid (Nat.le_trans hnc hcm)
 clear hs hnc hcm hn
 have hfin := hid (show ∀ X v, Below W.heap.size W X → patchB l = v → (Ending.returned (.bool v) = .returned (.bool (patchB l)) ∧ Below W.heap.size W X) from fun X v hX h => ⟨by rw [h], hX⟩)
 obtain ⟨Post, hPost⟩ : ∃ Post : Ending → World → Prop, (fun (e : Ending) (w' : World) => e = .returned (.bool (patchB l)) ∧ Below W.heap.size W w') = Post := ⟨_, rfl⟩
 replace hfin := hid (show ∀ X v, Below W.heap.size W X → patchB l = v → Post (.returned (.bool v)) X by rw [← hPost]; exact hfin.out)
 rw [hPost]
 clear hPost
 go_enter Tryz.func89, Tryz.ntmps89
 go_wp2_with fail
 go_loopw [3] (fun i wr => ∃ k : Nat, 1 ≤ k ∧ (k ≤ n ∨ k = 1) ∧ i = .int .i64 (k : Int) ∧ (∀ (j : Nat) (x y : Sl), j + 1 < k → l[j]? = some x → l[j + 1]? = some y → x.1 < y.1) ∧ Below W.heap.size W wr) (fun i _ => n - (intOf i).toNat)
 case atStart => exact ⟨1, by omega, .inr rfl, rfl, fun j x y h => absurd h (by omega), Below.refl _ _⟩
 case round =>
  obtain ⟨k, hk1, hk, rfl, hlt, hq⟩ := hrel
  have HLT := hid hlt
  have HQ := hid hq
  clear hlt hq
  by_cases hkn : k < n
  ·have hknI : (k : Int) < (n : Int) := by omega
   have hk0 : (0 : Int) ≤ (k : Int) := by omega
   have hkb : (k : Int) ≤ 9223372036854775806 := by have := hlc.out; omega
   obtain ⟨m, hm⟩ : ∃ m, k - 1 = m := ⟨_, rfl⟩
   have hm1 : (k : Int) - 1 = (m : Int) := by omega
   have hm2 : (m : Int) < (n : Int) := by omega
   obtain ⟨x, hx⟩ : ∃ x, l[m]? = some x := ⟨_, List.getElem?_eq_getElem (by have := HN.out; omega)⟩
   obtain ⟨y, hy⟩ : ∃ y, l[k]? = some y := ⟨_, List.getElem?_eq_getElem (by have := HN.out; omega)⟩
   obtain ⟨b, rfl, _⟩ := (HS.out.later HQ.out).at hx
   have hC := fun z : Ext wr => (HS.out.later (HQ.out.trans (z.below.mono HQ.out.size))).at' hx
   have hD := fun z : Ext wr => (HS.out.later (HQ.out.trans (z.below.mono HQ.out.size))).at' hy
   have K3 := refCmp_ret x.1 y.1 (HS.out.wide hx).1 (HS.out.wide hy).1
   unfold wv at K3
   have hcge := hid (wcmp_ge x.1 y.1)
   generalize wcmp x.1 y.1 = c at *
   replace K3 := hid K3
   have c0 := fun z : Ext wr => (hC z).1
   have c1 := fun z : Ext wr => (hC z).2.1
   have c2 := fun z : Ext wr => (hC z).2.2.1
   have c3 := fun z : Ext wr => (hC z).2.2.2.1
   have d0 := fun z : Ext wr => (hD z).1
   have d1 := fun z : Ext wr => (hD z).2.1
   have d2 := fun z : Ext wr => (hD z).2.2.1
   have d3 := fun z : Ext wr => (hD z).2.2.2.1
   have HX := hid (And.intro hx hy)
   have HM := hid hm
   have HK := hid (And.intro hk1 hkn)
   clear hx hy hC hD hm hk1 hk hkn
   by_cases hc0 : 0 ≤ c
   ·go_wp2_with fail
    refine wp_region_quietL (C := Grows wr) hmx (by kernel_rfl) (grows_refl wr) ?_
    repeat (go_big_quiet_step (first | (with_reducible exact Ret.at K3.out _)))
    refine wpQuiet_nil ?_
    rintro _ ⟨z, rfl⟩
    have hno := hid (show patchB l = false by
     rcases hb : patchB l with _ | _
     ·rfl
     ·have hr := ((patchB_iff l).1 hb).2
      have h1 := rise_at.1 hr m x y HX.out.1 (by rw [show m + 1 = k by have := HM.out; have := HK.out; omega]; exact HX.out.2)
      have := hcge.out.1 hc0
      omega)
    have HE := hid (HQ.out.trans (z.below.mono HQ.out.size))
    clear c0 c1 c2 c3 d0 d1 d2 d3 K3
    go_wp2_with fail
    exact hfin.out _ _ HE.out hno.out
   ·go_wp2_with fail
    refine wp_region_quietL (C := Grows wr) hmx (by kernel_rfl) (grows_refl wr) ?_
    repeat (go_big_quiet_step (first | (with_reducible exact Ret.at K3.out _)))
    refine wpQuiet_nil ?_
    rintro _ ⟨z, rfl⟩
    have HE := hid (HQ.out.trans (z.below.mono HQ.out.size))
    have hlt := hid (show x.1 < y.1 from Nat.lt_of_not_le (fun h => by have := hcge.out.2 h; omega))
    clear c0 c1 c2 c3 d0 d1 d2 d3 K3
    go_wp2_with fail
    go_roundw
    case rel =>
     refine ⟨k + 1, by omega, .inl (by have := HK.out; omega), by simp, fun j x' y' hj h1 h2 => ?_, HE.out⟩
     by_cases hjk : j + 1 < k
     ·exact HLT.out j x' y' hjk h1 h2
     ·have hjk' : j = m := by have := HM.out; have := HK.out; omega
      subst hjk'
      rw [HX.out.1] at h1
      rw [show j + 1 = k by have := HM.out; have := HK.out; omega, HX.out.2] at h2
      injection h1 with h1
      injection h2 with h2
      subst h1 h2
      exact hlt.out
    case measure => have := HK.out; simp [intOf]; omega
  ·have hknI : ¬ (k : Int) < (n : Int) := by omega
   have hr := hid (show Rise l from rise_at.2 (fun j x y hx hy => HLT.out j x y (by
    have := (List.getElem?_eq_some_iff.1 hy).1
    have := HN.out
    omega) hx hy))
   clear hk hkn hk1
   by_cases hn0 : n ≤ 1000
   ·have hnI : (n : Int) ≤ 1000 := by omega
    have hyes := hid (show patchB l = true from (patchB_iff l).2 ⟨by rw [HN.out]; exact hn0, hr.out⟩)
    clear hn0
    go_wp2_with fail
    exact hfin.out _ _ HQ.out hyes.out
   ·have hnI : ¬ (n : Int) ≤ 1000 := by omega
    have hno := hid (show patchB l = false from by
     rcases hb : patchB l with _ | _
     ·rfl
     ·exact absurd ((patchB_iff l).1 hb).1 (by rw [HN.out]; exact hn0))
    clear hn0
    go_wp2_with fail
    exact hfin.out _ _ HQ.out hno.out
theorem refRight_any (W : World) (sv : Value) (l : List Sl) (hs : SlotsAt W sv l) :
  Calls Tryz.prog 57 #[sv] W fun e w' => e = .returned (.bool (rightB' l)) ∧ Below W.heap.size W w' := by
 have hmx : Tryz.prog.follows .mixedOrders = true := by kernel_rfl
 obtain ⟨a, cap, rfl, hnc, hcm⟩ := hs.shape
 have HS := hid hs
 obtain ⟨n, hn⟩ : ∃ n, l.length = n := ⟨_, rfl⟩
 rw [hn] at HS hnc ⊢
 have HN := hid hn
 have hlc := hid (Nat.le_trans hnc hcm)
 clear hs hnc hcm hn
 have hfin := hid (show ∀ X v, Below W.heap.size W X → rightB' l = v → (Ending.returned (.bool v) = .returned (.bool (rightB' l)) ∧ Below W.heap.size W X) from fun X v hX h => ⟨by rw [h], hX⟩)
 obtain ⟨Post, hPost⟩ : ∃ Post : Ending → World → Prop, (fun (e : Ending) (w' : World) => e = .returned (.bool (rightB' l)) ∧ Below W.heap.size W w') = Post := ⟨_, rfl⟩
 replace hfin := hid (show ∀ X v, Below W.heap.size W X → rightB' l = v → Post (.returned (.bool v)) X by rw [← hPost]; exact hfin.out)
 rw [hPost]
 clear hPost
 go_enter Tryz.func57, Tryz.ntmps57
 go_wp2_with fail
 go_loopw [3] (fun i wr => ∃ k : Nat, k ≤ n ∧ i = .int .i64 (k : Int) ∧ (∀ (j : Nat) (x : Sl), j < k → l[j]? = some x → x.2 ≠ 0) ∧ Below W.heap.size W wr) (fun i _ => n - (intOf i).toNat)
 case atStart => exact ⟨0, by omega, rfl, fun j x h => absurd h (by omega), Below.refl _ _⟩
 case round =>
  obtain ⟨k, hk, rfl, hlt, hq⟩ := hrel
  have HLT := hid hlt
  have HQ := hid hq
  clear hlt hq
  by_cases hkn : k < n
  ·have hknI : (k : Int) < (n : Int) := by omega
   have hk0 : (0 : Int) ≤ (k : Int) := by omega
   have hkb : (k : Int) ≤ 9223372036854775806 := by have := hlc.out; omega
   obtain ⟨x, hx⟩ : ∃ x, l[k]? = some x := ⟨_, List.getElem?_eq_getElem (by have := HN.out; omega)⟩
   obtain ⟨b, rfl, _⟩ := (HS.out.later HQ.out).at hx
   have hC := (HS.out.later HQ.out).at' hx
   have c4 := (hC).2.2.2.2.1
   have c5 := (hC).2.2.2.2.2.1
   have c6 := (hC).2.2.2.2.2.2.1
   have c7 := (hC).2.2.2.2.2.2.2
   have hz := zero_w x.2 (HS.out.wide hx).2
   have HX := hid hx
   have HK := hid hkn
   clear hx hC hk hkn
   by_cases hx0 : x.2 = 0
   ·rw [decide_eq_true hx0] at hz
    have hno := hid (show rightB' l = false by
     rcases hb : rightB' l with _ | _
     ·rfl
     ·exact absurd hx0 (((rightB_iff' l).1 hb).2.2 x (List.mem_of_getElem? HX.out)))
    clear hx0
    go_wp2_with fail
    exact hfin.out _ _ HQ.out hno.out
   ·rw [decide_eq_false hx0] at hz
    have hx0' := hid hx0
    clear hx0
    go_wp2_with fail
    go_roundw
    case rel =>
     refine ⟨k + 1, by have := HK.out; omega, by simp, fun j x' hj h1 => ?_, HQ.out⟩
     rcases Nat.lt_or_ge j k with h | h
     ·exact HLT.out j x' h h1
     ·obtain rfl : j = k := by omega
      rw [HX.out] at h1
      injection h1 with h1
      subst h1
      exact hx0'.out
    case measure => have := HK.out; simp [intOf]; omega
  ·have hknI : ¬ (k : Int) < (n : Int) := by omega
   have HC := hid (refPatch_any wr (.slice a n cap) l (HS.out.later HQ.out))
   have HE := hid (show patchB l = rightB' l from by
    rw [Bool.eq_iff_iff, patchB_iff, rightB_iff']
    refine ⟨fun h => ⟨h.1, h.2, fun x hx => ?_⟩, fun h => ⟨h.1, h.2.1⟩⟩
    obtain ⟨j, hj⟩ := List.getElem?_of_mem hx
    exact HLT.out j x (by have := (List.getElem?_eq_some_iff.1 hj).1; have := HN.out; omega) hj)
   clear hk hkn
   go_wp2_with fail
   refine HC.out.mono ?_
   rintro e w2 ⟨rfl, hb⟩
   have QE := hid (HQ.out.trans (hb.mono HQ.out.size))
   clear hb HC
   go_wp2_with fail
   exact hfin.out _ _ QE.out HE.out.symm
theorem refGet_any (W : World) (sv : Value) (l : List Sl) (hs : SlotsAt W sv l) (g : Nat) (hg : W256 g) :
  Calls Tryz.prog 43 #[sv, wv g] W fun e w' => e = .returned (wv (look l g)) ∧ Below W.heap.size W w' := by
 have hmx : Tryz.prog.follows .mixedOrders = true := by kernel_rfl
 obtain ⟨a, cap, rfl, hnc, hcm⟩ := hs.shape
 have HS := hid hs
 obtain ⟨n, hn⟩ : ∃ n, l.length = n := ⟨_, rfl⟩
 rw [hn] at HS hnc ⊢
 have HN := hid hn
 have hlc := hid (Nat.le_trans hnc hcm)
 clear hs hnc hcm hn
 have HG := hid hg
 clear hg
 have hfin := hid (show ∀ X v, Below W.heap.size W X → look l g = v → (Ending.returned (wv v) = .returned (wv (look l g)) ∧ Below W.heap.size W X) from fun X v hX h => ⟨by rw [h], hX⟩)
 obtain ⟨Post, hPost⟩ : ∃ Post : Ending → World → Prop, (fun (e : Ending) (w' : World) => e = .returned (wv (look l g)) ∧ Below W.heap.size W w') = Post := ⟨_, rfl⟩
 replace hfin := hid (show ∀ X v, Below W.heap.size W X → look l g = v → Post (.returned (wv v)) X by rw [← hPost]; exact hfin.out)
 rw [hPost]
 clear hPost
 have hEQ := hid (fun (x : Nat) (hx : W256 x) => eqv_w x g hx HG.out)
 unfold wv
 generalize hg0 : lim g 0 = g0 at hEQ ⊢
 generalize hg1 : lim g 1 = g1 at hEQ ⊢
 generalize hg2 : lim g 2 = g2 at hEQ ⊢
 generalize hg3 : lim g 3 = g3 at hEQ ⊢
 clear hg0 hg1 hg2 hg3
 have K0 := (Has.new W 28 #[.int .u64 g0, .int .u64 g1, .int .u64 g2, .int .u64 g3]).alloc (.cells #[.int .u64 0, .int .u64 0, .int .u64 0, .int .u64 0] 28)
 have Z0 := Has.new (W.alloc (.cells #[.int .u64 g0, .int .u64 g1, .int .u64 g2, .int .u64 g3] 28)) 28 #[.int .u64 0, .int .u64 0, .int .u64 0, .int .u64 0]
 simp only [World.size_alloc] at Z0
 have q0 := (newA W (.cells #[.int .u64 g0, .int .u64 g1, .int .u64 g2, .int .u64 g3] 28)).alloc (by simp) (.cells #[.int .u64 0, .int .u64 0, .int .u64 0, .int .u64 0] 28)
 have hsz0 : ((W.alloc (.cells #[.int .u64 g0, .int .u64 g1, .int .u64 g2, .int .u64 g3] 28)).alloc (.cells #[.int .u64 0, .int .u64 0, .int .u64 0, .int .u64 0] 28)).heap.size = W.heap.size + 1 + 1 := by simp
 obtain ⟨V, hV⟩ : ∃ V, (W.alloc (.cells #[.int .u64 g0, .int .u64 g1, .int .u64 g2, .int .u64 g3] 28)).alloc (.cells #[.int .u64 0, .int .u64 0, .int .u64 0, .int .u64 0] 28) = V := ⟨_, rfl⟩
 rw [hV] at K0 Z0 q0 hsz0
 have KK := hid K0
 have ZZ := hid Z0
 have HSV := hid (HS.out.later q0)
 have Q := hid q0
 clear K0 Z0 q0 HS hsz0
 go_enter Tryz.func43, Tryz.ntmps43
 go_wp2_with fail
 clear hV
 go_loopw [5] (fun i wr => ∃ k : Nat, k ≤ n ∧ i = .int .i64 (k : Int) ∧ (∀ (j : Nat) (x : Sl), j < k → l[j]? = some x → x.1 ≠ g) ∧ Below V.heap.size V wr) (fun i _ => n - (intOf i).toNat)
 case atStart => exact ⟨0, by omega, rfl, fun j x h => absurd h (by omega), Below.refl _ _⟩
 case round =>
  obtain ⟨k, hk, rfl, hlt, hq⟩ := hrel
  have HLT := hid hlt
  have HQ := hid hq
  have KK1 := hid (KK.out.later hq)
  have ZZ1 := hid (ZZ.out.later hq)
  clear hlt hq
  by_cases hkn : k < n
  ·have hknI : (k : Int) < (n : Int) := by omega
   have hk0 : (0 : Int) ≤ (k : Int) := by omega
   have hkb : (k : Int) ≤ 9223372036854775806 := by have := hlc.out; omega
   obtain ⟨x, hx⟩ : ∃ x, l[k]? = some x := ⟨_, List.getElem?_eq_getElem (by have := HN.out; omega)⟩
   obtain ⟨b, rfl, _⟩ := (HSV.out.later HQ.out).at hx
   have hC := fun z : Ext wr => (HSV.out.later (HQ.out.trans (z.below.mono HQ.out.size))).at' hx
   have c0 := fun z : Ext wr => (hC z).1
   have c1 := fun z : Ext wr => (hC z).2.1
   have c2 := fun z : Ext wr => (hC z).2.2.1
   have c3 := fun z : Ext wr => (hC z).2.2.2.1
   have k0 := fun z : Ext wr => (KK1.out.later z.below).cell 0 _ rfl
   have k1 := fun z : Ext wr => (KK1.out.later z.below).cell 1 _ rfl
   have k2 := fun z : Ext wr => (KK1.out.later z.below).cell 2 _ rfl
   have k3 := fun z : Ext wr => (KK1.out.later z.below).cell 3 _ rfl
   have hz := hEQ.out x.1 (HSV.out.wide hx).1
   have HX := hid hx
   have HK := hid hkn
   clear hx hC hk hkn
   by_cases hxg : x.1 = g
   ·rw [decide_eq_true hxg] at hz
    have HXG := hid hxg
    clear hxg
    go_wp2_with fail
    refine wp_region_quietL (C := Grows wr) hmx (by kernel_rfl) (grows_refl wr) ?_
    repeat (go_big_quiet_step (fail))
    refine wpQuiet_nil ?_
    rintro _ ⟨z, rfl⟩
    have hq2 := HQ.out.trans (z.below.mono HQ.out.size)
    have hC := (HSV.out.later hq2).at' HX.out
    have e4 := (hC).2.2.2.2.1
    have e5 := (hC).2.2.2.2.2.1
    have e6 := (hC).2.2.2.2.2.2.1
    have e7 := (hC).2.2.2.2.2.2.2
    have ZZ2 := ZZ1.out.later z.below
    have z0 := ZZ2.cell 0 _ rfl
    have z1 := ZZ2.cell 1 _ rfl
    have z2 := ZZ2.cell 2 _ rfl
    have z3 := ZZ2.cell 3 _ rfl
    have f0 := ZZ2.frozen 0
    have f1 := ZZ2.frozen 1
    have f2 := ZZ2.frozen 2
    have f3 := ZZ2.frozen 3
    have ZZ3 := (((ZZ2.set 0 (.int .u64 (lim x.2 0))).set 1 (.int .u64 (lim x.2 1))).set 2 (.int .u64 (lim x.2 2))).set 3 (.int .u64 (lim x.2 3))
    have QZ := hid (((((Q.out.trans (hq2.mono Q.out.size)).setCell (p := ⟨W.heap.size + 1, 0, none⟩) (by simp) (.int .u64 (lim x.2 0))).setCell (p := ⟨W.heap.size + 1, 1, none⟩) (by simp) (.int .u64 (lim x.2 1))).setCell (p := ⟨W.heap.size + 1, 2, none⟩) (by simp) (.int .u64 (lim x.2 2))).setCell (p := ⟨W.heap.size + 1, 3, none⟩) (by simp) (.int .u64 (lim x.2 3)))
    have HZ := hid ZZ3
    have hlk := hid (show look l g = x.2 by
     unfold look
     rw [← HXG.out, lk_first HX.out (fun j y hj hy => by rw [HXG.out]; exact HLT.out j y hj hy)]
     rfl)
    replace ZZ2 := hid ZZ2
    clear c0 c1 c2 c3 k0 k1 k2 k3 hC ZZ3 hq2
    go_wp2_with fail
    exact bodyPost_ret (results_h (Tryz.results43) rfl HZ.out) rfl (hfin.out _ _ QZ.out hlk.out)
   ·rw [decide_eq_false hxg] at hz
    have HXG := hid hxg
    clear hxg
    go_wp2_with fail
    refine wp_region_quietL (C := Grows wr) hmx (by kernel_rfl) (grows_refl wr) ?_
    repeat (go_big_quiet_step (fail))
    refine wpQuiet_nil ?_
    rintro _ ⟨z, rfl⟩
    have HE := hid (HQ.out.trans (z.below.mono HQ.out.size))
    clear c0 c1 c2 c3 k0 k1 k2 k3
    go_wp2_with fail
    go_roundw
    case rel =>
     refine ⟨k + 1, by have := HK.out; omega, by simp, fun j x' hj h1 => ?_, HE.out⟩
     rcases Nat.lt_or_ge j k with h | h
     ·exact HLT.out j x' h h1
     ·obtain rfl : j = k := by omega
      rw [HX.out] at h1
      injection h1 with h1
      subst h1
      exact HXG.out
    case measure => have := HK.out; simp [intOf]; omega
  ·have hknI : ¬ (k : Int) < (n : Int) := by omega
   have z0 := ZZ1.out.cell 0 _ rfl
   have z1 := ZZ1.out.cell 1 _ rfl
   have z2 := ZZ1.out.cell 2 _ rfl
   have z3 := ZZ1.out.cell 3 _ rfl
   have f0 := ZZ1.out.frozen 0
   have f1 := ZZ1.out.frozen 1
   have f2 := ZZ1.out.frozen 2
   have f3 := ZZ1.out.frozen 3
   have ZZ3 := (((ZZ1.out.set 0 (.int .u64 0)).set 1 (.int .u64 0)).set 2 (.int .u64 0)).set 3 (.int .u64 0)
   have QZ := hid (((((Q.out.trans (HQ.out.mono Q.out.size)).setCell (p := ⟨W.heap.size + 1, 0, none⟩) (by simp) (.int .u64 0)).setCell (p := ⟨W.heap.size + 1, 1, none⟩) (by simp) (.int .u64 0)).setCell (p := ⟨W.heap.size + 1, 2, none⟩) (by simp) (.int .u64 0)).setCell (p := ⟨W.heap.size + 1, 3, none⟩) (by simp) (.int .u64 0))
   have HZ := hid ZZ3
   have hlk := hid (show look l g = 0 by
    unfold look
    rw [lk_no (fun j y hy => HLT.out j y (by have := (List.getElem?_eq_some_iff.1 hy).1; have := HN.out; omega) hy)]
    rfl)
   clear hk hkn ZZ3
   go_wp2_with fail
   exact bodyPost_ret (results_h (Tryz.results43) rfl HZ.out) rfl (hfin.out _ 0 QZ.out hlk.out)
end
end Go.Proofs.YtkicmbdjihjgfaaGreatDoor
