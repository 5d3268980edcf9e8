/- Worlds that have grown, but for one block. -/
import Derived.Test.YtbkgipggblphlaaRegion
import Derived.RangeFuncRecord
namespace Go.Proofs.Ytbkgipggblphlaa
open Go Go.RowKit

theorem grown_of_below {w W : World} (h : Below w.heap.size w W) (row : Option Nat) : w.grownBy W row := ⟨h.os, h.tape, h.output, h.size, fun k hk _ => h.block k hk⟩
theorem grown_then_below {w A B : World} {row : Option Nat} (h : w.grownBy A row) (hb : Below A.heap.size A B) : w.grownBy B row :=
  ⟨hb.os.trans h.os, hb.tape.trans h.tape, hb.output.trans h.output, Nat.le_trans h.size hb.size, fun k hk hne => (hb.block k (Nat.lt_of_lt_of_le hk h.size)).trans (h.block k hk hne)⟩
theorem grown_set {w A : World} {S : Nat} (h : w.grownBy A (some S)) {p : Addr} (hp : p.block = S ∨ w.heap.size ≤ p.block) (u : Value) : w.grownBy (A.setCell p u) (some S) :=
  ⟨h.os, h.tape, h.output, by simpa [World.setCell] using h.size, fun k hk hne => (Below.heap_setCell A p u k (fun e => by
    rcases hp with hp | hp
    · exact hne (by rw [e, hp])
    · omega)).trans (h.block k hk hne)⟩
theorem grown_alloc {w A : World} {row : Option Nat} (h : w.grownBy A row) (o : Obj) : w.grownBy (A.alloc o) row :=
  ⟨h.os, h.tape, h.output, Nat.le_trans h.size (by simp), fun k hk hne => (Below.heap_alloc A o k (Nat.lt_of_lt_of_le hk h.size)).trans (h.block k hk hne)⟩
theorem grown_putObj {w A : World} {row : Option Nat} (h : w.grownBy A row) {l : Nat} (hl : w.heap.size ≤ l) (o : Obj) : w.grownBy (A.putObj l o) row :=
  ⟨h.os, h.tape, h.output, by simpa using h.size, fun k hk hne => (World.putObj_heap_other (by omega)).trans (h.block k hk hne)⟩

end Go.Proofs.Ytbkgipggblphlaa
