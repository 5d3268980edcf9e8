/- join: two words, part by part. Condition: what the pair's function answers for the parts. -/
import Derived.Test.YtbkgipggblphlaaParts
import Derived.Test.YtbkgipggblphlaaMix
namespace Go.Proofs.Ytbkgipggblphlaa
open Go Go.RowKit Go.Shelf
attribute [local go_sem] Oper.semAt_some Grows wide_fn

/-- What is left over when the places of a list have been gone through. -/
def leftOf (nx : Nat → Int → Int) (l0 : Int) (pre : List (Fin 4)) : Int := pre.foldl (fun l k => nx k.val l) l0
theorem leftOf_snoc (nx : Nat → Int → Int) (l0 : Int) (pre : List (Fin 4)) (k : Fin 4) : leftOf nx l0 (pre ++ [k]) = nx k.val (leftOf nx l0 pre) := by simp [leftOf]
/-- What is made. -/
def madeOf (o nx : Nat → Int → Int) : Int → List (Fin 4) → (Nat → Int) → Nat → Int
  | _, [], m => m
  | l, k :: r, m => madeOf o nx (nx k.val l) r (fun j => if j = k.val then o k.val l else m j)
theorem madeOf_snoc (o nx : Nat → Int → Int) (k : Fin 4) : ∀ (pre : List (Fin 4)) (l0 : Int) (m : Nat → Int), madeOf o nx l0 (pre ++ [k]) m = fun j => if j = k.val then o k.val (leftOf nx l0 pre) else madeOf o nx l0 pre m j
  | [], l0, m => rfl
  | x :: r, l0, m => by
    show madeOf o nx (nx x.val l0) (r ++ [k]) _ = _
    rw [madeOf_snoc o nx k r]
    rfl

end Go.Proofs.Ytbkgipggblphlaa
