/- The bytes of a number, as a text (of a seat that has no Hex). -/
import Derived.Test.YtnlcllhjhbaigaaDoorBitQ
import Derived.Test.YtnlcllhjhbaigaaDoorRefD
import Derived.Laws.MakeOwn
import Derived.Laws.AppendOwn
import Derived.OwnWalk
import Derived.WalkSmall
namespace Go.Proofs.YtnlcllhjhbaigaaDoor
open Go Go.RowKit Go.Shelf
attribute [local go_sem] Oper.semAt_some Grows wide_fn
theorem infoB : (Tryd.prog.info? 5).map (fun i => (i.zero, i.size, i.bytes)) = some (some (.int .u8 0), 1, 1) := by kernel_rfl
theorem owns_below {w w' : World} {base : Nat} {e : TypeId} {size : Nat} {v : Value} {n : Nat} {xs : List Value} (h : w.ownsRow base e size v n xs) (hb : Below w.heap.size w w') : w'.ownsRow base e size v n xs :=
  h.kept (grown_of_below hb none) (by cases hv : v.ownBlock <;> simp)
theorem row_ne {w : World} {base : Nat} {e : TypeId} {size : Nat} {v : Value} {n : Nat} {xs : List Value} (h : w.ownsRow base e size v n xs) {b : Nat} {C : Array Value} {t : TypeId} {p q : Nat} (hb : w.heap[b]? = some (.cells C t (p, q + 1))) : some b ≠ v.ownBlock := by
  rcases h.2 with ⟨rfl, _⟩ | ⟨g, cap, cur, rfl, _, hg, _⟩
  · simp [Value.ownBlock]
  · intro e
    simp [Value.ownBlock] at e
    subst e
    rw [hb] at hg
    cases hg
/-- The bytes of a number, as numbers, the highest one first. -/
def byteL (a : Nat) : List Nat := (List.range 32).map fun j => byteN a (31 - j)
theorem byteL_lt' (a : Nat) : ∀ b ∈ byteL a, b < 256 := by
  intro b hb
  obtain ⟨j, _, rfl⟩ := List.mem_map.1 hb
  exact byteN_lt _ _
theorem byteL_length (a : Nat) : (byteL a).length = 32 := by simp [byteL]
theorem bytesOf_list (a : Nat) : (bytesOf a).data.toList = (byteL a).map UInt8.ofNat := by
  unfold bytesOf strOfNums byteL
  simp [Function.comp_def]
theorem bytesOf_size (a : Nat) : (bytesOf a).size = 32 := by
  have : (bytesOf a).data.toList.length = 32 := by rw [bytesOf_list]; simp [byteL]
  simpa using this
end Go.Proofs.YtnlcllhjhbaigaaDoor
