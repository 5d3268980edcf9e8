/- A word of digits, and digits carried: the document's own answer. For every row of digits. -/
import Derived.Test.YtbkgipggblphlaaRefA
namespace Go.Proofs.Ytbkgipggblphlaa
open Go Go.RowKit Go.Shelf
attribute [local go_sem] Oper.semAt_some Grows wide_fn

/-! ### A word of digits -/
/-! ### Carried -/
def carV (d : Nat → Int) (n : Nat) : List Value := (List.range n).map fun j => Value.int .i64 (rD d j)
theorem carV_succ (d : Nat → Int) (n : Nat) : carV d (n + 1) = carV d n ++ [.int .i64 (rD d n)] := by simp [carV, List.range_succ]

end Go.Proofs.Ytbkgipggblphlaa
