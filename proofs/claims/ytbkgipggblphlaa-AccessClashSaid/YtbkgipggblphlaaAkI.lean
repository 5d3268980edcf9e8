/- Sets that fit, and what Join makes of them. Conditions: none. -/
import Derived.Test.YtbkgipggblphlaaAkH
namespace Go.Proofs.Ytbkgipggblphlaa
open Go Go.RowKit

/-- A set of at most n keys. -/
structure FitN (l : List Ky) (n : Nat) : Prop where
  up : Kup l
  may : l.any strayB = false
  len : l.length ≤ n
theorem FitN.fit {l : List Ky} {n : Nat} (h : FitN l n) (hn : n ≤ 200) : fitB l = true := by
  unfold fitB
  rw [decide_eq_true (Nat.le_trans h.len hn), (kupB_iff l).2 h.up, h.may]
  rfl
theorem any_stray {l : List Ky} : l.any strayB = false ↔ ∀ x ∈ l, strayB x = false := by
  rw [List.any_eq_false]
  exact ⟨fun h x hx => by have := h x hx; simpa using this, fun h x hx => by rw [h x hx]; decide⟩
theorem FitN.join {l m : List Ky} {a b : Nat} (h : FitN l a) (k : FitN m b) : FitN (setL (l ++ m)) (a + b) where
  up := setL_up _
  may := any_stray.2 fun x hx => by
    rcases List.mem_append.1 ((setL_mem _ _).1 hx) with h1 | h1
    · exact any_stray.1 h.may x h1
    · exact any_stray.1 k.may x h1
  len := by
    have h1 := setL_len (l ++ m)
    rw [List.length_append] at h1
    have := h.len
    have := k.len
    omega
theorem setN_fit (zs : List (Int × Int)) : FitN (setN zs) 15 where
  up := setL_up _
  may := any_stray.2 fun x hx => any_stray.1 (keysN_may zs) x ((setL_mem _ _).1 hx)
  len := Nat.le_trans (setL_len _) (keysN_len zs)
theorem joinM_fit {r s r2 s2 : List Ky} {a b c d : Nat} (h1 : FitN r a) (h2 : FitN s b) (h3 : FitN r2 c) (h4 : FitN s2 d) (h : a + c ≤ 200) (h' : b + d ≤ 200) : joinM r s r2 s2 = (setL (r ++ r2), setL (s ++ s2), 0) := by
  unfold joinM
  rw [h1.fit (by omega), h2.fit (by omega), h3.fit (by omega), h4.fit (by omega), if_pos (by rfl)]
  refine makeM_ok ?_ ?_ (Nat.le_trans (h1.join h3).len h) (Nat.le_trans (h2.join h4).len h')
  · rw [List.any_append, h1.may, h3.may]; rfl
  · rw [List.any_append, h2.may, h4.may]; rfl
theorem setL_comm (l m : List Ky) : setL (l ++ m) = setL (m ++ l) := setL_same fun x => by simp [or_comm]
theorem setL_twice {l : List Ky} (h : Kup l) : setL (l ++ l) = l := (setL_eq h (fun x => by simp)).symm
theorem setL_assoc (l m n : List Ky) : setL (setL (l ++ m) ++ n) = setL (l ++ setL (m ++ n)) := setL_same fun x => by simp [setL_mem, or_assoc]
end Go.Proofs.Ytbkgipggblphlaa

namespace Go.Proofs.Ytbkgipggblphlaa
open Go Go.RowKit
attribute [local go_sem] Oper.semAt_some Grows wide_fn

end Go.Proofs.Ytbkgipggblphlaa
