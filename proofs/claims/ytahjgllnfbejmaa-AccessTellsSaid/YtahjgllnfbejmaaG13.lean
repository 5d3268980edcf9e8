/- Part. -/
import Derived.Test.YtahjgllnfbejmaaG12
set_option maxRecDepth 100000
set_option maxHeartbeats 16000000
namespace Go.Proofs.Ytahjgllnfbejmaa
open Go Go.RowKit
theorem accessTells_ret (W : World) (va : Value) (ra sa : List Ky) (hA : SetsAt W va ra sa) (x : Ky) (hx : KyOk x) (y : Ky) (hy : KyOk y) (v1 : Value) (z1 : List (Int × Int)) (h1 : RawAt W v1 z1) (v2 : Value) (z2 : List (Int × Int)) (h2 : RawAt W v2 z2) (many : Int) (hm : I64 many) :
  Calls Try.prog 3 #[va, .agg (kyC x), .agg (kyC y), v1, v2, .int .i64 many] W fun e w' => e = .returned (.bool true) ∧ Below W.heap.size W w' :=
 atells_any W va ra sa hA x y hx hy v1 v2 z1 z2 h1 h2 many hm
end Go.Proofs.Ytahjgllnfbejmaa
