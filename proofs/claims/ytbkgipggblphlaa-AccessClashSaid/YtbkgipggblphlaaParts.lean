/- The iterator over a word's four parts. Condition: the pointer leads to an array of four numbers that the loop's body leaves alone. -/
import Derived.RangeFuncNested
import Derived.RangeFuncBound
import Derived.RangeFuncCalls
import Derived.RangeFuncLeaves
import Derived.RangeFuncBox
import Derived.Shelf.Abstract
import Derived.Shelf.RegionOpen
import Derived.WalkKit
import Derived.OwnWalkIn
import Derived.TacticsInMore
import Derived.LoopNIn
import Derived.LoopIn
import Derived.Lib.Hide
import Derived.Test.YtbkgipggblphlaaRegion
import Derived.Test.YtbkgipggblphlaaProg
namespace Go.Proofs.Ytbkgipggblphlaa
open Go Go.RowKit Go.Shelf
attribute [local go_sem] Oper.semAt_some

/-- What has come when k rounds are over. -/
def upto {α : Type} (f : Nat → α) (k : Nat) : List α := (List.range k).map f
theorem upto_succ {α : Type} (f : Nat → α) (k : Nat) : upto f (k + 1) = upto f k ++ [f k] := by simp [upto, List.range_succ]
theorem upto_length {α : Type} (f : Nat → α) (k : Nat) : (upto f k).length = k := by simp [upto]

/-- The blocks of the list are as they were. -/
def KeepsAt (L : List Nat) (W W' : World) : Prop := ∀ b, b ∈ L → W'.heap[b]? = W.heap[b]?
theorem KeepsAt.refl (L : List Nat) (W : World) : KeepsAt L W W := fun _ _ => rfl
theorem KeepsAt.trans {L : List Nat} {A B C : World} (h : KeepsAt L A B) (k : KeepsAt L B C) : KeepsAt L A C := fun b hb => (k b hb).trans (h b hb)
theorem KeepsAt.cell {L : List Nat} {W W' : World} (h : KeepsAt L W W') {p : Addr} (hp : p.block ∈ L) : W'.cell? p = W.cell? p := World.cell?_of_block (w := W) (h p.block hp)
theorem KeepsAt.frozen {L : List Nat} {W W' : World} (h : KeepsAt L W W') {p : Addr} (hp : p.block ∈ L) : W'.frozen? p = W.frozen? p := World.frozen?_of_block (w := W) (h p.block hp)
theorem KeepsAt.drew {L : List Nat} {W W' : World} (h : KeepsAt L W W') : KeepsAt L W W'.drew := h
theorem KeepsAt.alloc {L : List Nat} {W W' : World} (h : KeepsAt L W W') (hL : ∀ b, b ∈ L → b < W'.heap.size) (o : Obj) : KeepsAt L W (W'.alloc o) := fun b hb => (Below.heap_alloc _ _ _ (hL b hb)).trans (h b hb)
theorem KeepsAt.setCell {L : List Nat} {W W' : World} (h : KeepsAt L W W') {p : Addr} (hp : p.block ∉ L) (v : Value) : KeepsAt L W (W'.setCell p v) := fun b hb => (Below.heap_setCell _ _ _ _ (fun e => hp (e ▸ hb))).trans (h b hb)
theorem KeepsAt.below {L : List Nat} {W A B : World} {n : Nat} (h : KeepsAt L W A) (hb : Below n A B) (hL : ∀ b, b ∈ L → b < n) : KeepsAt L W B := fun b hm => (hb.block b (hL b hm)).trans (h b hm)
theorem KeepsAt.b {L : List Nat} {w : World} (hL : ∀ b, b ∈ L → b < w.heap.size) (W : World) (l : Nat) (o o' : Obj) (hl : w.heap.size ≤ l) (_ : W.heap[l]? = some o) (_ : o.isCells = false) (_ : o.isWalk = false) : KeepsAt L W (W.putObj l o') :=
  fun b hb => World.putObj_heap_other (by have := hL b hb; omega)

set_option maxRecDepth 100000 in
set_option maxHeartbeats 2000000 in
theorem parts1_in {α : Type} (f : Nat → α) (encs : α → Array Value) (F : Fence) (n : Nat) (hF : F.fn 65) (hro : F.round = none) (hn : 1 ≤ n) (l Bs b : Nat) (z : Nat → Int)
    (henc : ∀ k, k < 4 → encs (f k) = #[.int .i64 (k : Int), .int .u64 (z k)]) (J Jx : List α → World → Prop)
    (hY : ∀ pre x W, J pre W → pre.length < 4 → YieldAt F (n - 1) Try.prog l (encs x) W fun e W' =>
      (e = .returned (.bool true) ∧ J (pre ++ [x]) W' ∧ KeepsAt [b, Bs] W W') ∨ (e = .returned (.bool false) ∧ Jx (pre ++ [x]) W'))
    (W : World) (hBs : W.cell? ⟨Bs, 0, none⟩ = some (.pointer (some ⟨b, 0, none⟩))) (hc : ∀ j, j < 4 → W.cell? ⟨b, j, none⟩ = some (.int .u64 (z j))) (h0 : J [] W) :
    CallsIn F n Try.prog 65 #[.func (.yield l) #[] #[], .pointer (some ⟨Bs, 0, none⟩)] W fun e W' => (∃ v, e = .returned v) ∧
      ((∃ ys, ys = upto f 4 ∧ J ys W') ∨ (∃ pre, (∃ k, k ≤ 4 ∧ pre = upto f k) ∧ Jx pre W')) := by
  refine callsIn_of_wp Try.func65 rfl hF ?_ hro
  simp only [Try.ntmps65, List.size_toArray, List.length_cons, List.length_nil, Nat.reduceAdd, Nat.reduceSub, Array.replicate_succ, Array.replicate_zero, List.push_toArray, List.append_toArray, List.nil_append, List.cons_append]
  gi_wp2
  gi_loopw [4] (fun i wr => ∃ k : Nat, k ≤ 4 ∧ i = .int .i64 k ∧ J (upto f k) wr ∧ KeepsAt [b, Bs] W wr)
    (fun i _ => 4 - (intOf i).toNat)
  case atStart => exact ⟨0, Nat.zero_le _, rfl, h0, KeepsAt.refl _ _⟩
  case round =>
    obtain ⟨k, hk, rfl, hJs, hnx⟩ := hrel
    by_cases hlt : k < 4
    · obtain ⟨fn, tmps, assign, body, hy, hR⟩ := hY _ (f k) wr hJs (by rw [upto_length]; exact hlt)
      rw [henc k hlt] at hy
      have hcx : wr.cell? ⟨b, k, none⟩ = some (.int .u64 (z k)) := (hnx.cell (p := ⟨b, k, none⟩) (by simp)).trans (hc k hlt)
      have hbx : wr.cell? ⟨Bs, 0, none⟩ = some (.pointer (some ⟨b, 0, none⟩)) := (hnx.cell (p := ⟨Bs, 0, none⟩) (by simp)).trans hBs
      clear hc hBs henc
      gi_wp2
      refine hR.mono ?_
      rintro e W3 (⟨rfl, hJ3, hk3⟩ | ⟨rfl, hJx3⟩)
      · gi_wp2
        go_roundw
        case rel => exact ⟨k + 1, by omega, by simp, by rw [upto_succ]; exact hJ3, hnx.trans hk3⟩
        case measure => simp [intOf]; omega
      · gi_wp2
        refine bodyPost_ret (results_none rfl _ _ _) rfl ?_
        exact ⟨⟨_, rfl⟩, .inr ⟨_, ⟨k + 1, by omega, (upto_succ _ _).symm⟩, hJx3⟩⟩
    · obtain rfl : k = 4 := by omega
      gi_wp2
      go_end0
      exact ⟨⟨_, rfl⟩, .inl ⟨_, rfl, hJs⟩⟩

/-- The k-th place. -/
def place (k : Nat) : Fin 4 := if h : k < 4 then ⟨k, h⟩ else 0
theorem place_val {k : Nat} (h : k < 4) : (place k).val = k := by simp [place, h]
theorem places_all : upto place 4 = [0, 1, 2, 3] := rfl

/-- The iterator's contract: places and parts, in their order. -/
theorem parts_stops (F : Fence) (n : Nat) (hF : F.fn 65) (hro : F.round = none) (hn : 1 ≤ n) (Bs b : Nat) (z : Nat → Int) (w : World) (hBs : Bs < w.heap.size) (hb : b < w.heap.size)
    (hcB : w.cell? ⟨Bs, 0, none⟩ = some (.pointer (some ⟨b, 0, none⟩))) (hc : ∀ j, j < 4 → w.cell? ⟨b, j, none⟩ = some (.int .u64 (z j))) :
    SeqStopsK F n Try.prog 65 #[.pointer (some ⟨Bs, 0, none⟩)] (fun x : Fin 4 => #[Value.int .i64 (x.val : Int), Value.int .u64 (z x.val)]) (KeepsAt [b, Bs]) (fun ys => ys = [0, 1, 2, 3])
      (fun pre => ∃ k, k ≤ 4 ∧ pre = upto place k) 4 w := fun l J Jx W hW _ _ hY h0 => by
  exact parts1_in place _ F n hF hro hn l Bs b z (fun k hk => by simp only [place_val hk]) J Jx hY W ((hW.cell (p := ⟨Bs, 0, none⟩) hBs).trans hcB) (fun j hj => (hW.cell (p := ⟨b, j, none⟩) hb).trans (hc j hj)) h0

/-! ### A word that lies in a block of its own -/

/-- Block B holds four numbers. -/
def Arr4 (W : World) (B : Nat) (t : TypeId) (m : Nat → Int) : Prop := W.heap[B]? = some (.cells #[.int .u64 (m 0), .int .u64 (m 1), .int .u64 (m 2), .int .u64 (m 3)] t (0, 0))
theorem Arr4.lt {W : World} {B : Nat} {t : TypeId} {m : Nat → Int} (h : Arr4 W B t m) : B < W.heap.size := (Array.getElem?_eq_some_iff.1 h).1
theorem Arr4.cell {W : World} {B : Nat} {t : TypeId} {m : Nat → Int} (h : Arr4 W B t m) {j : Nat} (hj : j < 4) : W.cell? ⟨B, j, none⟩ = some (.int .u64 (m j)) := by
  simp only [World.cell?, show W.heap[B]? = _ from h]
  match j, hj with
  | 0, _ => rfl
  | 1, _ => rfl
  | 2, _ => rfl
  | 3, _ => rfl
theorem Arr4.frozen {W : World} {B : Nat} {t : TypeId} {m : Nat → Int} (h : Arr4 W B t m) (j : Nat) : W.frozen? ⟨B, j, none⟩ = false := by
  simp [World.frozen?, show W.heap[B]? = _ from h]
theorem Arr4.kept {W W' : World} {row : Option Nat} {B : Nat} {t : TypeId} {m : Nat → Int} (h : Arr4 W B t m) (hg : W.grownBy W' row) (hne : some B ≠ row) : Arr4 W' B t m := (hg.block B h.lt hne).trans h
theorem Arr4.below {W W' : World} {B n : Nat} {t : TypeId} {m : Nat → Int} (h : Arr4 W B t m) (hb : Below n W W') (hlt : B < n) : Arr4 W' B t m := (hb.block B hlt).trans h
theorem Arr4.alloc {W : World} {B : Nat} {t : TypeId} {m : Nat → Int} (h : Arr4 W B t m) (o : Obj) : Arr4 (W.alloc o) B t m := h.kept (World.grownBy_alloc W o none) (by simp)
theorem Arr4.drew {W : World} {B : Nat} {t : TypeId} {m : Nat → Int} (h : Arr4 W B t m) : Arr4 W.drew B t m := h
theorem Arr4.new (W : World) (t : TypeId) (a b c d : Int) : Arr4 (W.alloc (.cells #[.int .u64 a, .int .u64 b, .int .u64 c, .int .u64 d] t)) W.heap.size t (fun j => if j = 0 then a else if j = 1 then b else if j = 2 then c else d) := World.alloc_heap_new W _
theorem Arr4.set {W : World} {B : Nat} {t : TypeId} {m : Nat → Int} (h : Arr4 W B t m) {k : Nat} (hk : k < 4) (v : Int) : Arr4 (W.setCell ⟨B, k, none⟩ (.int .u64 v)) B t (fun j => if j = k then v else m j) := by
  obtain ⟨hlt, he⟩ := Array.getElem?_eq_some_iff.1 h
  show (W.heap.modify B _)[B]? = _
  rw [Array.getElem?_eq_getElem (by rw [Array.size_modify]; exact hlt), Array.getElem_modify_self, he]
  match k, hk with
  | 0, _ => rfl
  | 1, _ => rfl
  | 2, _ => rfl
  | 3, _ => rfl
theorem Arr4.other {W : World} {B : Nat} {t : TypeId} {m : Nat → Int} (h : Arr4 W B t m) {p : Addr} (hne : B ≠ p.block) (v : Value) : Arr4 (W.setCell p v) B t m :=
  (Below.heap_setCell W p v B hne).trans h
theorem Arr4.own {β : Type} (B : Nat) (t : TypeId) (f : β → Nat → Int) : Own (fun s W => Arr4 W B t (f s)) := fun s X Y row hs hg hrow =>
  hs.kept hg (fun e' => by obtain ⟨o, ho, hc⟩ := hrow B e'.symm; rw [show X.heap[B]? = _ from hs] at ho; cases ho; cases hc)
theorem Boxed.below {W W' : World} {B n : Nat} {t : TypeId} {v : Value} (h : Boxed W B t v) (hb : Below n W W') (hlt : B < n) : Boxed W' B t v := (hb.block B hlt).trans h
theorem Boxed.away {W : World} {B : Nat} {t : TypeId} {v : Value} (h : Boxed W B t v) {p : Addr} (hne : B ≠ p.block) (u : Value) : Boxed (W.setCell p u) B t v :=
  (Below.heap_setCell W p u B hne).trans h

set_option maxHeartbeats 1000000 in
/-- parts(p): the pointer is boxed; the function value captures the box. -/
theorem parts_any (p : Option Addr) (w : World) :
    Calls Try.prog 60 #[.pointer p] w fun e w' => e = .returned (.func (.func 65) #[] #[.pointer (some ⟨w.heap.size, 0, none⟩)]) ∧ w' = w.alloc (.cells #[.pointer p] 88) := by
  go_enter Try.func60, Try.ntmps60
  go_wp2
  go_ret
  exact ⟨rfl, rfl⟩
end Go.Proofs.Ytbkgipggblphlaa
