/- Tables: Put of each, one behind the other, in any order. Conditions: none. -/
import Derived.Test.YtcannohmbaaceaaTabI
namespace Go.Proofs.Ytcannohmbaaceaa

def putL (l : List Sl) (x : Sl) : List Sl := mergeL l [x]
def putsL (a l : List Sl) : List Sl := l.foldl putL a
/-- No two of the same key. -/
def Apart (l : List Sl) : Prop := l.Pairwise (fun x y => x.1 ≠ y.1)
theorem Rise.apart {l : List Sl} (h : Rise l) : Apart l := h.imp (fun h => Nat.ne_of_lt h)
theorem Apart.reverse {l : List Sl} (h : Apart l) : Apart l.reverse := by
  unfold Apart at *
  rw [List.pairwise_reverse]
  exact h.imp (fun h => h.symm)
theorem lk_apart {l : List Sl} (h : Apart l) {x : Sl} (hx : x ∈ l) : lk l x.1 = some x.2 := by
  induction l with
  | nil => cases hx
  | cons y r ih =>
    have h1 := List.pairwise_cons.1 h
    rw [lk]
    rcases List.mem_cons.1 hx with rfl | hx
    · rw [if_pos rfl]
    · rw [if_neg (h1.1 x hx)]
      exact ih h1.2 hx
theorem lk_reverse {l : List Sl} (h : Apart l) (k : Nat) : lk l.reverse k = lk l k := by
  rcases hk : lk l k with _ | v
  · refine lk_none (fun x hx e => ?_)
    have := lk_apart h (List.mem_reverse.1 hx)
    rw [e, hk] at this
    cases this
  · have := lk_apart h.reverse (List.mem_reverse.2 (lk_mem hk))
    exact this
theorem putL_kept {a : List Sl} (ha : Rise a) (x : Sl) : Kept (putL a x) := mergeL_kept ha (by unfold Rise; simp)
theorem putsL_kept {a : List Sl} (ha : Kept a) (l : List Sl) : Kept (putsL a l) := by
  induction l generalizing a with
  | nil => exact ha
  | cons x r ih => exact ih (putL_kept ha.1 x)
theorem look_putL {a : List Sl} (ha : Kept a) (x : Sl) (k : Nat) : look (putL a x) k = if x.1 = k then x.2 else look a k := by
  unfold putL
  rw [lk_merge ha (by unfold Rise; simp), lk, lk]
  by_cases h : x.1 = k
  · rw [if_pos h, if_pos h]
  · rw [if_neg h, if_neg h]
theorem look_putsL {a : List Sl} (ha : Kept a) {l : List Sl} (hl : Apart l) (k : Nat) : look (putsL a l) k = match lk l k with | some v => v | none => look a k := by
  induction l generalizing a with
  | nil => rfl
  | cons x r ih =>
    have h1 := List.pairwise_cons.1 hl
    have e := ih (putL_kept ha.1 x) h1.2
    rw [show putsL a (x :: r) = putsL (putL a x) r from rfl, e, lk, look_putL ha]
    by_cases h : x.1 = k
    · rw [if_pos h, if_pos h, lk_none (fun y hy e => h1.1 y hy (h.trans e.symm))]
    · rw [if_neg h, if_neg h]
theorem putsL_merge {a b : List Sl} (ha : Kept a) (hb : Rise b) : putsL a b = mergeL a b :=
  kept_ext (putsL_kept ha b) (mergeL_kept ha.1 hb) (fun k => by rw [look_putsL ha hb.apart, lk_merge ha hb]; cases lk b k <;> rfl)
theorem putsL_back {a b : List Sl} (ha : Kept a) (hb : Rise b) : putsL a b.reverse = mergeL a b :=
  kept_ext (putsL_kept ha _) (mergeL_kept ha.1 hb) (fun k => by rw [look_putsL ha hb.apart.reverse, lk_reverse hb.apart, lk_merge ha hb]; cases lk b k <;> rfl)
theorem putsL_snoc (a l : List Sl) (x : Sl) : putsL a (l ++ [x]) = putL (putsL a l) x := by
  unfold putsL
  rw [List.foldl_append]
  rfl
theorem putsL_len (a l : List Sl) : (putsL a l).length ≤ a.length + l.length := by
  induction l generalizing a with
  | nil => exact Nat.le_refl _
  | cons x r ih =>
    have h1 := ih (putL a x)
    have h2 : (putL a x).length ≤ a.length + 1 := Nat.le_trans (listF_len _ _) (bothL_len a [x])
    rw [show putsL a (x :: r) = putsL (putL a x) r from rfl, List.length_cons]
    omega
end Go.Proofs.Ytcannohmbaaceaa
