/- The iterator over a word's four parts, told by the number of rounds. Condition: the pointer leads to an array of four numbers that the loop's body leaves alone. -/
import Derived.Test.YtnjmhcooejcehaaDoorParts
import Derived.Test.YtnjmhcooejcehaaDoorSeq
namespace Go.Proofs.YtnjmhcooejcehaaDoor
open Go Go.RowKit Go.Shelf
attribute [local go_sem] Oper.semAt_some

end Go.Proofs.YtnjmhcooejcehaaDoor
