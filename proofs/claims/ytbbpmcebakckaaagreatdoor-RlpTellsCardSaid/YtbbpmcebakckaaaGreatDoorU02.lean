import Derived.RangeFuncNested
import Derived.RangeFuncBound
import Derived.RangeFuncCalls
import Derived.RangeFuncLeaves
import Derived.RangeFuncBox
import Derived.Shelf.Abstract
import Derived.Shelf.RegionOpen
import Derived.WalkKit
import Derived.OwnWalkIn
import Derived.TacticsInMore
import Derived.LoopNIn
import Derived.LoopIn
import Derived.Lib.Hide
import Derived.Test.YtbbpmcebakckaaaGreatDoorU01
import Derived.Test.YtbbpmcebakckaaaGreatDoorProg
/- The iterator over a word's four parts. Condition: the pointer leads to an array of four numbers that the loop's body leaves alone. -/
namespace Go.Proofs.YtbbpmcebakckaaaGreatDoor
open Go Go.RowKit Go.Shelf
attribute [local go_sem] Oper.semAt_some

/-- What has come when k rounds are over. -/
def upto {α : Type} (f : Nat → α) (k : Nat) : List α := (List.range k).map f
theorem upto_succ {α : Type} (f : Nat → α) (k : Nat) : upto f (k + 1) = upto f k ++ [f k] := by simp [upto, List.range_succ]
theorem upto_length {α : Type} (f : Nat → α) (k : Nat) : (upto f k).length = k := by simp [upto]

/-- The blocks of the list are as they were. -/
def KeepsAt (L : List Nat) (W W' : World) : Prop := ∀ b, b ∈ L → W'.heap[b]? = W.heap[b]?
theorem KeepsAt.refl (L : List Nat) (W : World) : KeepsAt L W W := fun _ _ => rfl
theorem KeepsAt.trans {L : List Nat} {A B C : World} (h : KeepsAt L A B) (k : KeepsAt L B C) : KeepsAt L A C := fun b hb => (k b hb).trans (h b hb)
theorem KeepsAt.cell {L : List Nat} {W W' : World} (h : KeepsAt L W W') {p : Addr} (hp : p.block ∈ L) : W'.cell? p = W.cell? p := World.cell?_of_block (w := W) (h p.block hp)
theorem KeepsAt.frozen {L : List Nat} {W W' : World} (h : KeepsAt L W W') {p : Addr} (hp : p.block ∈ L) : W'.frozen? p = W.frozen? p := World.frozen?_of_block (w := W) (h p.block hp)
theorem KeepsAt.drew {L : List Nat} {W W' : World} (h : KeepsAt L W W') : KeepsAt L W W'.drew := h
theorem KeepsAt.alloc {L : List Nat} {W W' : World} (h : KeepsAt L W W') (hL : ∀ b, b ∈ L → b < W'.heap.size) (o : Obj) : KeepsAt L W (W'.alloc o) := fun b hb => (Below.heap_alloc _ _ _ (hL b hb)).trans (h b hb)
theorem KeepsAt.setCell {L : List Nat} {W W' : World} (h : KeepsAt L W W') {p : Addr} (hp : p.block ∉ L) (v : Value) : KeepsAt L W (W'.setCell p v) := fun b hb => (Below.heap_setCell _ _ _ _ (fun e => hp (e ▸ hb))).trans (h b hb)
theorem KeepsAt.below {L : List Nat} {W A B : World} {n : Nat} (h : KeepsAt L W A) (hb : Below n A B) (hL : ∀ b, b ∈ L → b < n) : KeepsAt L W B := fun b hm => (hb.block b (hL b hm)).trans (h b hm)
theorem KeepsAt.b {L : List Nat} {w : World} (hL : ∀ b, b ∈ L → b < w.heap.size) (W : World) (l : Nat) (o o' : Obj) (hl : w.heap.size ≤ l) (_ : W.heap[l]? = some o) (_ : o.isCells = false) (_ : o.isWalk = false) : KeepsAt L W (W.putObj l o') :=
  fun b hb => World.putObj_heap_other (by have := hL b hb; omega)

set_option maxRecDepth 100000 in
set_option maxHeartbeats 2000000 in
theorem parts1_in {α : Type} (f : Nat → α) (encs : α → Array Value) (F : Fence) (n : Nat) (hF : F.fn 65) (hro : F.round = none) (hn : 1 ≤ n) (l Bs b : Nat) (z : Nat → Int)
    (henc : ∀ k, k < 4 → encs (f k) = #[.int .i64 (k : Int), .int .u64 (z k)]) (J Jx : List α → World → Prop)
    (hY : ∀ pre x W, J pre W → pre.length < 4 → YieldAt F (n - 1) Tryz.prog l (encs x) W fun e W' =>
      (e = .returned (.bool true) ∧ J (pre ++ [x]) W' ∧ KeepsAt [b, Bs] W W') ∨ (e = .returned (.bool false) ∧ Jx (pre ++ [x]) W'))
    (W : World) (hBs : W.cell? ⟨Bs, 0, none⟩ = some (.pointer (some ⟨b, 0, none⟩))) (hc : ∀ j, j < 4 → W.cell? ⟨b, j, none⟩ = some (.int .u64 (z j))) (h0 : J [] W) :
    CallsIn F n Tryz.prog 65 #[.func (.yield l) #[] #[], .pointer (some ⟨Bs, 0, none⟩)] W fun e W' => (∃ v, e = .returned v) ∧
      ((∃ ys, ys = upto f 4 ∧ J ys W') ∨ (∃ pre, (∃ k, k ≤ 4 ∧ pre = upto f k) ∧ Jx pre W')) := by
  refine callsIn_of_wp Tryz.func65 rfl hF ?_ hro
  simp only [Tryz.ntmps65, List.size_toArray, List.length_cons, List.length_nil, Nat.reduceAdd, Nat.reduceSub, Array.replicate_succ, Array.replicate_zero, List.push_toArray, List.append_toArray, List.nil_append, List.cons_append]
  gi_wp2
  gi_loopw [4] (fun i wr => ∃ k : Nat, k ≤ 4 ∧ i = .int .i64 k ∧ J (upto f k) wr ∧ KeepsAt [b, Bs] W wr)
    (fun i _ => 4 - (intOf i).toNat)
  case atStart => exact ⟨0, Nat.zero_le _, rfl, h0, KeepsAt.refl _ _⟩
  case round =>
    obtain ⟨k, hk, rfl, hJs, hnx⟩ := hrel
    by_cases hlt : k < 4
    · obtain ⟨fn, tmps, assign, body, hy, hR⟩ := hY _ (f k) wr hJs (by rw [upto_length]; exact hlt)
      rw [henc k hlt] at hy
      have hcx : wr.cell? ⟨b, k, none⟩ = some (.int .u64 (z k)) := (hnx.cell (p := ⟨b, k, none⟩) (by simp)).trans (hc k hlt)
      have hbx : wr.cell? ⟨Bs, 0, none⟩ = some (.pointer (some ⟨b, 0, none⟩)) := (hnx.cell (p := ⟨Bs, 0, none⟩) (by simp)).trans hBs
      clear hc hBs henc
      gi_wp2
      refine hR.mono ?_
      rintro e W3 (⟨rfl, hJ3, hk3⟩ | ⟨rfl, hJx3⟩)
      · gi_wp2
        go_roundw
        case rel => exact ⟨k + 1, by omega, by simp, by rw [upto_succ]; exact hJ3, hnx.trans hk3⟩
        case measure => simp [intOf]; omega
      · gi_wp2
        refine bodyPost_ret (results_none rfl _ _ _) rfl ?_
        exact ⟨⟨_, rfl⟩, .inr ⟨_, ⟨k + 1, by omega, (upto_succ _ _).symm⟩, hJx3⟩⟩
    · obtain rfl : k = 4 := by omega
      gi_wp2
      go_end0
      exact ⟨⟨_, rfl⟩, .inl ⟨_, rfl, hJs⟩⟩

/-- The k-th place. -/
def place (k : Nat) : Fin 4 := if h : k < 4 then ⟨k, h⟩ else 0
theorem place_val {k : Nat} (h : k < 4) : (place k).val = k := by simp [place, h]
theorem places_all : upto place 4 = [0, 1, 2, 3] := rfl

/-- The iterator's contract: places and parts, in their order. -/
theorem parts_stops (F : Fence) (n : Nat) (hF : F.fn 65) (hro : F.round = none) (hn : 1 ≤ n) (Bs b : Nat) (z : Nat → Int) (w : World) (hBs : Bs < w.heap.size) (hb : b < w.heap.size)
    (hcB : w.cell? ⟨Bs, 0, none⟩ = some (.pointer (some ⟨b, 0, none⟩))) (hc : ∀ j, j < 4 → w.cell? ⟨b, j, none⟩ = some (.int .u64 (z j))) :
    SeqStopsK F n Tryz.prog 65 #[.pointer (some ⟨Bs, 0, none⟩)] (fun x : Fin 4 => #[Value.int .i64 (x.val : Int), Value.int .u64 (z x.val)]) (KeepsAt [b, Bs]) (fun ys => ys = [0, 1, 2, 3])
      (fun pre => ∃ k, k ≤ 4 ∧ pre = upto place k) 4 w := fun l J Jx W hW _ _ hY h0 => by
  exact parts1_in place _ F n hF hro hn l Bs b z (fun k hk => by simp only [place_val hk]) J Jx hY W ((hW.cell (p := ⟨Bs, 0, none⟩) hBs).trans hcB) (fun j hj => (hW.cell (p := ⟨b, j, none⟩) hb).trans (hc j hj)) h0

/-! ### A word that lies in a block of its own -/

/-- Block B holds four numbers. -/
def Arr4 (W : World) (B : Nat) (t : TypeId) (m : Nat → Int) : Prop := W.heap[B]? = some (.cells #[.int .u64 (m 0), .int .u64 (m 1), .int .u64 (m 2), .int .u64 (m 3)] t (0, 0))
theorem Arr4.lt {W : World} {B : Nat} {t : TypeId} {m : Nat → Int} (h : Arr4 W B t m) : B < W.heap.size := (Array.getElem?_eq_some_iff.1 h).1
theorem Arr4.cell {W : World} {B : Nat} {t : TypeId} {m : Nat → Int} (h : Arr4 W B t m) {j : Nat} (hj : j < 4) : W.cell? ⟨B, j, none⟩ = some (.int .u64 (m j)) := by
  simp only [World.cell?, show W.heap[B]? = _ from h]
  match j, hj with
  | 0, _ => rfl
  | 1, _ => rfl
  | 2, _ => rfl
  | 3, _ => rfl
theorem Arr4.frozen {W : World} {B : Nat} {t : TypeId} {m : Nat → Int} (h : Arr4 W B t m) (j : Nat) : W.frozen? ⟨B, j, none⟩ = false := by
  simp [World.frozen?, show W.heap[B]? = _ from h]
theorem Arr4.kept {W W' : World} {row : Option Nat} {B : Nat} {t : TypeId} {m : Nat → Int} (h : Arr4 W B t m) (hg : W.grownBy W' row) (hne : some B ≠ row) : Arr4 W' B t m := (hg.block B h.lt hne).trans h
theorem Arr4.below {W W' : World} {B n : Nat} {t : TypeId} {m : Nat → Int} (h : Arr4 W B t m) (hb : Below n W W') (hlt : B < n) : Arr4 W' B t m := (hb.block B hlt).trans h
theorem Arr4.alloc {W : World} {B : Nat} {t : TypeId} {m : Nat → Int} (h : Arr4 W B t m) (o : Obj) : Arr4 (W.alloc o) B t m := h.kept (World.grownBy_alloc W o none) (by simp)
theorem Arr4.drew {W : World} {B : Nat} {t : TypeId} {m : Nat → Int} (h : Arr4 W B t m) : Arr4 W.drew B t m := h
theorem Arr4.new (W : World) (t : TypeId) (a b c d : Int) : Arr4 (W.alloc (.cells #[.int .u64 a, .int .u64 b, .int .u64 c, .int .u64 d] t)) W.heap.size t (fun j => if j = 0 then a else if j = 1 then b else if j = 2 then c else d) := World.alloc_heap_new W _
theorem Arr4.set {W : World} {B : Nat} {t : TypeId} {m : Nat → Int} (h : Arr4 W B t m) {k : Nat} (hk : k < 4) (v : Int) : Arr4 (W.setCell ⟨B, k, none⟩ (.int .u64 v)) B t (fun j => if j = k then v else m j) := by
  obtain ⟨hlt, he⟩ := Array.getElem?_eq_some_iff.1 h
  show (W.heap.modify B _)[B]? = _
  rw [Array.getElem?_eq_getElem (by rw [Array.size_modify]; exact hlt), Array.getElem_modify_self, he]
  match k, hk with
  | 0, _ => rfl
  | 1, _ => rfl
  | 2, _ => rfl
  | 3, _ => rfl
theorem Arr4.other {W : World} {B : Nat} {t : TypeId} {m : Nat → Int} (h : Arr4 W B t m) {p : Addr} (hne : B ≠ p.block) (v : Value) : Arr4 (W.setCell p v) B t m :=
  (Below.heap_setCell W p v B hne).trans h
theorem Arr4.own {β : Type} (B : Nat) (t : TypeId) (f : β → Nat → Int) : Own (fun s W => Arr4 W B t (f s)) := fun s X Y row hs hg hrow =>
  hs.kept hg (fun e' => by obtain ⟨o, ho, hc⟩ := hrow B e'.symm; rw [show X.heap[B]? = _ from hs] at ho; cases ho; cases hc)
theorem Boxed.below {W W' : World} {B n : Nat} {t : TypeId} {v : Value} (h : Boxed W B t v) (hb : Below n W W') (hlt : B < n) : Boxed W' B t v := (hb.block B hlt).trans h
theorem Boxed.away {W : World} {B : Nat} {t : TypeId} {v : Value} (h : Boxed W B t v) {p : Addr} (hne : B ≠ p.block) (u : Value) : Boxed (W.setCell p u) B t v :=
  (Below.heap_setCell W p u B hne).trans h

set_option maxHeartbeats 1000000 in
/-- parts(p): the pointer is boxed; the function value captures the box. -/
theorem parts_any (p : Option Addr) (w : World) :
    Calls Tryz.prog 47 #[.pointer p] w fun e w' => e = .returned (.func (.func 65) #[] #[.pointer (some ⟨w.heap.size, 0, none⟩)]) ∧ w' = w.alloc (.cells #[.pointer p] 88) := by
  go_enter Tryz.func47, Tryz.ntmps47
  go_wp2
  go_ret
  exact ⟨rfl, rfl⟩
end Go.Proofs.YtbbpmcebakckaaaGreatDoor

/- join: two words, part by part. Condition: what the pair's function answers for the parts. -/
namespace Go.Proofs.YtbbpmcebakckaaaGreatDoor
open Go Go.RowKit Go.Shelf
attribute [local go_sem] Oper.semAt_some Grows wide_fn

/-- What is left over when the places of a list have been gone through. -/
def leftOf (nx : Nat → Int → Int) (l0 : Int) (pre : List (Fin 4)) : Int := pre.foldl (fun l k => nx k.val l) l0
theorem leftOf_snoc (nx : Nat → Int → Int) (l0 : Int) (pre : List (Fin 4)) (k : Fin 4) : leftOf nx l0 (pre ++ [k]) = nx k.val (leftOf nx l0 pre) := by simp [leftOf]
/-- What is made. -/
def madeOf (o nx : Nat → Int → Int) : Int → List (Fin 4) → (Nat → Int) → Nat → Int
  | _, [], m => m
  | l, k :: r, m => madeOf o nx (nx k.val l) r (fun j => if j = k.val then o k.val l else m j)
theorem madeOf_snoc (o nx : Nat → Int → Int) (k : Fin 4) : ∀ (pre : List (Fin 4)) (l0 : Int) (m : Nat → Int), madeOf o nx l0 (pre ++ [k]) m = fun j => if j = k.val then o k.val (leftOf nx l0 pre) else madeOf o nx l0 pre m j
  | [], l0, m => rfl
  | x :: r, l0, m => by
    show madeOf o nx (nx x.val l0) (r ++ [k]) _ = _
    rw [madeOf_snoc o nx k r]
    rfl

end Go.Proofs.YtbbpmcebakckaaaGreatDoor

/- join, with an order left over: two words, part by part. Condition: what the pair's function answers for the parts. -/
namespace Go.Proofs.YtbbpmcebakckaaaGreatDoor
open Go Go.RowKit Go.Shelf
attribute [local go_sem] Oper.semAt_some Grows wide_fn

/-- What the call's own blocks hold between two rounds. -/
def JoinIAt (H : Nat) (zA zB : Nat → Int) (fv : Value) (m : Nat → Int) (l : Int) (W : World) : Prop :=
  Arr4 W H 25 zA ∧ Arr4 W (H + 1) 25 zB ∧ Boxed W (H + 1 + 1) 3 (.int .i64 l) ∧ Boxed W (H + 1 + 1 + 1) 180 fv ∧
    Arr4 W (H + 1 + 1 + 1 + 1) 25 (fun _ => 0) ∧ Arr4 W (H + 1 + 1 + 1 + 1 + 1) 25 m ∧ Boxed W (H + 1 + 1 + 1 + 1 + 1 + 1) 88 (.pointer (some ⟨H, 0, none⟩))
theorem JoinIAt.own {β : Type} (H : Nat) (zA zB : Nat → Int) (fv : Value) (m : β → Nat → Int) (l : β → Int) : Own (fun s W => JoinIAt H zA zB fv (m s) (l s) W) := fun s X Y row hs hg hr =>
  ⟨Arr4.own H _ (fun _ : β => zA) s X Y row hs.1 hg hr, Arr4.own (H + 1) _ (fun _ : β => zB) s X Y row hs.2.1 hg hr, boxed_own (H + 1 + 1) _ (fun s : β => Value.int .i64 (l s)) s X Y row hs.2.2.1 hg hr, boxed_own (H + 1 + 1 + 1) _ (fun _ : β => fv) s X Y row hs.2.2.2.1 hg hr,
    Arr4.own (H + 1 + 1 + 1 + 1) _ (fun _ : β => fun _ => 0) s X Y row hs.2.2.2.2.1 hg hr, Arr4.own (H + 1 + 1 + 1 + 1 + 1) _ m s X Y row hs.2.2.2.2.2.1 hg hr, boxed_own (H + 1 + 1 + 1 + 1 + 1 + 1) _ (fun _ : β => _) s X Y row hs.2.2.2.2.2.2 hg hr⟩

set_option maxRecDepth 100000 in
set_option maxHeartbeats 2000000 in
theorem join_int (zA zB : Nat → Int) (o nx : Nat → Int → Int) (l0 : Int) (Lb : Int → Prop) (hL0 : Lb l0) (hLn : ∀ k, k < 4 → ∀ l, Lb l → Lb (nx k l))
    (hrun : ∀ k, k < 4 → ∀ l, Lb l → Ret Tryz.prog 101 #[.int .u64 (zA k), .int .u64 (zB k), .int .i64 l] (.tuple #[.int .u64 (o k l), .int .i64 (nx k l)]))
    (w : World) :
    Calls Tryz.prog 100 #[.agg #[.int .u64 (zA 0), .int .u64 (zA 1), .int .u64 (zA 2), .int .u64 (zA 3)], .agg #[.int .u64 (zB 0), .int .u64 (zB 1), .int .u64 (zB 2), .int .u64 (zB 3)], .int .i64 l0, .func (.func 101) #[] #[]] w fun e w' =>
      e = .returned (.tuple #[.agg #[.int .u64 (madeOf o nx l0 [0, 1, 2, 3] (fun _ => 0) 0), .int .u64 (madeOf o nx l0 [0, 1, 2, 3] (fun _ => 0) 1), .int .u64 (madeOf o nx l0 [0, 1, 2, 3] (fun _ => 0) 2), .int .u64 (madeOf o nx l0 [0, 1, 2, 3] (fun _ => 0) 3)], .int .i64 (leftOf nx l0 [0, 1, 2, 3])]) ∧ Below w.heap.size w w' := by
  have h1 : 1 ≤ 3 := by omega
  refine (callsIn_wide (n := 3)).1 ?_
  refine callsIn_of_wp_marks Tryz.func100 rfl trivial ?_ rfl
  simp only [Tryz.ntmps100, List.size_toArray, List.length_cons, List.length_nil, Nat.reduceAdd, Nat.reduceSub, Array.replicate_succ, Array.replicate_zero, List.push_toArray, List.append_toArray, List.nil_append, List.cons_append]
  gi_wp2_with (gi_at_call 47; refine (callsIn_free free_wide (parts_any _ _)).mono ?_; rintro e w' ⟨rfl, rfl⟩)
  obtain ⟨W0, hW0⟩ : ∃ W0, (((((((w.alloc (.cells #[.int .u64 (zA 0), .int .u64 (zA 1), .int .u64 (zA 2), .int .u64 (zA 3)] 25)).alloc (.cells #[.int .u64 (zB 0), .int .u64 (zB 1), .int .u64 (zB 2), .int .u64 (zB 3)] 25)).alloc (.cells #[.int .i64 l0] 3)).alloc (.cells #[.func (.func 101) #[] #[]] 180)).alloc (.cells #[.int .u64 0, .int .u64 0, .int .u64 0, .int .u64 0] 25)).alloc (.cells #[.int .u64 0, .int .u64 0, .int .u64 0, .int .u64 0] 25)).alloc (.cells #[.pointer (some ⟨w.heap.size, 0, none⟩)] 88)) = W0 := ⟨_, rfl⟩
  have hB0 : Below w.heap.size w W0 := by
    rw [← hW0]; exact (((((((Below.refl _ w).alloc (by first | exact Nat.le_refl _ | (simp; done) | (simp; omega)) _).alloc (by first | exact Nat.le_refl _ | (simp; done) | (simp; omega)) _).alloc (by first | exact Nat.le_refl _ | (simp; done) | (simp; omega)) _).alloc (by first | exact Nat.le_refl _ | (simp; done) | (simp; omega)) _).alloc (by first | exact Nat.le_refl _ | (simp; done) | (simp; omega)) _).alloc (by first | exact Nat.le_refl _ | (simp; done) | (simp; omega)) _).alloc (by first | exact Nat.le_refl _ | (simp; done) | (simp; omega)) _
  have hsz : W0.heap.size = w.heap.size + 7 := by rw [← hW0]; simp
  have hJ0 : JoinIAt w.heap.size zA zB (.func (.func 101) #[] #[]) (fun _ => 0) l0 W0 := by
    rw [← hW0]
    refine ⟨?_, ?_, ?_, ?_, ?_, ?_, ?_⟩
    · have h := World.alloc_heap_new w (.cells #[.int .u64 (zA 0), .int .u64 (zA 1), .int .u64 (zA 2), .int .u64 (zA 3)] 25)
      exact (((((((show Arr4 _ _ _ zA from h).alloc _).alloc _).alloc _).alloc _).alloc _).alloc _)
    · have h := World.alloc_heap_new (w.alloc (.cells #[.int .u64 (zA 0), .int .u64 (zA 1), .int .u64 (zA 2), .int .u64 (zA 3)] 25)) (.cells #[.int .u64 (zB 0), .int .u64 (zB 1), .int .u64 (zB 2), .int .u64 (zB 3)] 25)
      rw [World.size_alloc] at h
      exact ((((((show Arr4 _ _ _ zB from h).alloc _).alloc _).alloc _).alloc _).alloc _)
    · have h := Boxed.new ((w.alloc (.cells #[.int .u64 (zA 0), .int .u64 (zA 1), .int .u64 (zA 2), .int .u64 (zA 3)] 25)).alloc (.cells #[.int .u64 (zB 0), .int .u64 (zB 1), .int .u64 (zB 2), .int .u64 (zB 3)] 25)) 3 (.int .i64 l0)
      rw [World.size_alloc, World.size_alloc] at h
      exact ((((h.alloc _).alloc _).alloc _).alloc _)
    · have h := Boxed.new (((w.alloc (.cells #[.int .u64 (zA 0), .int .u64 (zA 1), .int .u64 (zA 2), .int .u64 (zA 3)] 25)).alloc (.cells #[.int .u64 (zB 0), .int .u64 (zB 1), .int .u64 (zB 2), .int .u64 (zB 3)] 25)).alloc (.cells #[.int .i64 l0] 3)) 180 (.func (.func 101) #[] #[])
      rw [World.size_alloc, World.size_alloc, World.size_alloc] at h
      exact (((h.alloc _).alloc _).alloc _)
    · have h := World.alloc_heap_new ((((w.alloc (.cells #[.int .u64 (zA 0), .int .u64 (zA 1), .int .u64 (zA 2), .int .u64 (zA 3)] 25)).alloc (.cells #[.int .u64 (zB 0), .int .u64 (zB 1), .int .u64 (zB 2), .int .u64 (zB 3)] 25)).alloc (.cells #[.int .i64 l0] 3)).alloc (.cells #[.func (.func 101) #[] #[]] 180)) (.cells #[.int .u64 0, .int .u64 0, .int .u64 0, .int .u64 0] 25)
      rw [World.size_alloc, World.size_alloc, World.size_alloc, World.size_alloc] at h
      exact (((show Arr4 _ _ _ (fun _ => 0) from h).alloc _).alloc _)
    · have h := World.alloc_heap_new (((((w.alloc (.cells #[.int .u64 (zA 0), .int .u64 (zA 1), .int .u64 (zA 2), .int .u64 (zA 3)] 25)).alloc (.cells #[.int .u64 (zB 0), .int .u64 (zB 1), .int .u64 (zB 2), .int .u64 (zB 3)] 25)).alloc (.cells #[.int .i64 l0] 3)).alloc (.cells #[.func (.func 101) #[] #[]] 180)).alloc (.cells #[.int .u64 0, .int .u64 0, .int .u64 0, .int .u64 0] 25)) (.cells #[.int .u64 0, .int .u64 0, .int .u64 0, .int .u64 0] 25)
      rw [World.size_alloc, World.size_alloc, World.size_alloc, World.size_alloc, World.size_alloc] at h
      exact ((show Arr4 _ _ _ (fun _ => 0) from h).alloc _)
    · have h := Boxed.new ((((((w.alloc (.cells #[.int .u64 (zA 0), .int .u64 (zA 1), .int .u64 (zA 2), .int .u64 (zA 3)] 25)).alloc (.cells #[.int .u64 (zB 0), .int .u64 (zB 1), .int .u64 (zB 2), .int .u64 (zB 3)] 25)).alloc (.cells #[.int .i64 l0] 3)).alloc (.cells #[.func (.func 101) #[] #[]] 180)).alloc (.cells #[.int .u64 0, .int .u64 0, .int .u64 0, .int .u64 0] 25)).alloc (.cells #[.int .u64 0, .int .u64 0, .int .u64 0, .int .u64 0] 25)) 88 (.pointer (some ⟨w.heap.size, 0, none⟩))
      rw [World.size_alloc, World.size_alloc, World.size_alloc, World.size_alloc, World.size_alloc, World.size_alloc] at h
      exact h
  rw [hW0]
  clear hW0
  have hcP := Boxed.cell hJ0.2.2.2.2.2.2
  have hA' : ∀ j, j < 4 → W0.cell? ⟨w.heap.size, j, none⟩ = some (.int .u64 (zA j)) := fun j hj => hJ0.1.cell hj
  refine wpIn_rangeFunc_ownG rfl h1 (gf := 65) (lb := #[.pointer (some ⟨w.heap.size + 1 + 1 + 1 + 1 + 1 + 1, 0, none⟩)]) rfl trivial (enters_of Tryz.func65 (by kernel_rfl) rfl)
    (parts_stops Fence.wide _ trivial rfl (by omega) _ (w.heap.size) zA W0 (by omega) (by omega) hcP hA') KeepsAt.trans (KeepsAt.b (by simp; omega)) (Below.refl _ _) (fun _ => rfl)
    (fun pre W => (JoinIAt w.heap.size zA zB (.func (.func 101) #[] #[]) (madeOf o nx l0 pre (fun _ => 0)) (leftOf nx l0 pre) W ∧ Lb (leftOf nx l0 pre)) ∧ Below w.heap.size w W)
    (fun _ _ _ => False)
    ?hI
    (fun _ _ _ _ _ hs _ _ => hs)
    ⟨⟨hJ0, hL0⟩, hB0⟩
    (fun x => { tmps := #[.agg #[.int .u64 (zA 0), .int .u64 (zA 1), .int .u64 (zA 2), .int .u64 (zA 3)], .agg #[.int .u64 (zB 0), .int .u64 (zB 1), .int .u64 (zB 2), .int .u64 (zB 3)], .int .i64 l0, .func (.func 101) #[] #[], .pointer (some ⟨w.heap.size, 0, none⟩), .pointer (some ⟨w.heap.size + 1, 0, none⟩), .pointer (some ⟨w.heap.size + 1 + 1, 0, none⟩), .pointer (some ⟨w.heap.size + 1 + 1 + 1, 0, none⟩), .pointer (some ⟨w.heap.size + 1 + 1 + 1 + 1, 0, none⟩), .int .i64 0, .pointer (some ⟨w.heap.size + 1 + 1 + 1 + 1 + 1, 0, none⟩), .int .i64 (x.val : Int), .int .u64 (zA x.val), .agg #[.int .u64 0, .int .u64 0, .int .u64 0, .int .u64 0], .func (.func 65) #[] #[.pointer (some ⟨w.heap.size + 1 + 1 + 1 + 1 + 1 + 1, 0, none⟩)], .int .i64 (x.val : Int), .int .u64 (zA x.val), undef, undef, undef, undef, undef, undef, undef, undef, undef, undef, undef, undef, undef, undef], defers := [] }) ?assign ?body ?done ?stop
  case hI => exact OwnFrom.and (OwnFrom.and (Own.from (JoinIAt.own _ _ _ _ _ _) _) (ownFrom_pure _ _)) (ownFrom_below (Nat.le_refl _) (by omega))
  case assign =>
    intro l x W K hK
    gi_wp2
    exact hK
  case body =>
    rintro l pre ⟨k, hk⟩ W ⟨⟨⟨bA, bB, b6, b7, b8, b10, bP⟩, hl⟩, hBw⟩ _
    have hmx : Tryz.prog.follows .mixedOrders = true := by kernel_rfl
    have c6 := b6.cell
    have c7 := b7.cell
    have cB := bB.cell hk
    have f6 := b6.frozen
    have f10 := b10.frozen k
    have c10 := b10.cell hk
    have hk0 : (0 : Int) ≤ (k : Int) := by omega
    have hk4 : (k : Int) < 4 := by omega
    have hr := hrun k hk _ hl
    clear hrun hA' hcP
    have hM := Lib.hid (madeOf_snoc o nx ⟨k, hk⟩ pre l0 (fun _ => 0))
    have hL := Lib.hid (leftOf_snoc nx l0 pre ⟨k, hk⟩)
    have hLb := hLn k hk _ hl
    generalize leftOf nx l0 pre = lx at *
    generalize madeOf o nx l0 pre (fun _ => 0) = mx at *
    have e6 : ∀ x : Ext W, x.w.cell? ⟨w.heap.size + 1 + 1, 0, none⟩ = some (.int .i64 lx) := fun x => (x.cell b6.lt).trans c6
    have e7 : ∀ x : Ext W, x.w.cell? ⟨w.heap.size + 1 + 1 + 1, 0, none⟩ = some (.func (.func 101) #[] #[]) := fun x => (x.cell b7.lt).trans c7
    have eB : ∀ x : Ext W, x.w.cell? ⟨w.heap.size + 1, k, none⟩ = some (.int .u64 (zB k)) := fun x => (x.cell (p := ⟨_, k, none⟩) bB.lt).trans cB
    have e10 : ∀ x : Ext W, x.w.cell? ⟨w.heap.size + 1 + 1 + 1 + 1 + 1, k, none⟩ = some (.int .u64 (mx k)) := fun x => (x.cell (p := ⟨_, k, none⟩) b10.lt).trans c10
    have g6 : ∀ x : Ext W, x.w.frozen? ⟨w.heap.size + 1 + 1, 0, none⟩ = false := fun x => (x.frozen b6.lt).trans f6
    have g10 : ∀ x : Ext W, x.w.frozen? ⟨w.heap.size + 1 + 1 + 1 + 1 + 1, k, none⟩ = false := fun x => (x.frozen (p := ⟨_, k, none⟩) b10.lt).trans f10
    clear c6 c7 cB c10 f6 f10
    gi_wp2
    refine wpIn_region_mix (C := Grows W) (free_round l) [some true, some true, some true, some true, some true, some true, some true, some true, some true, some true, some false, some true, none, none] hmx (by kernel_rfl) (by kernel_rfl) (grows_refl W) ?_
    simp only [headOf, tailOf]
    repeat (go_big_quiet_step (exact Ret.at hr _))
    refine wpQuiet_nil ?_
    rintro _ ⟨x, rfl⟩
    go_wp2
    rw [calmPost_normal]
    refine ⟨((x.keeps _).trans ((KeepsOthers.setCell _ _ _).from _)).trans ((KeepsOthers.setCell _ _ _).from _), ?_, ⟨⟨?_, by rw [hL.out]; exact hLb⟩, ?_⟩⟩
    · exact (((KeepsAt.refl _ _).below x.below (fun b hb => by simp at hb; have := hBw.size; have := b10.lt; have := bP.lt; omega)).setCell (by simp; omega) _).setCell (by simp; omega) _
    · rw [hM.out, hL.out]
      have F1 : ∀ {a b : Nat}, a ≠ b → a ≠ b := fun h => h
      exact ⟨Arr4.other (Arr4.other (Arr4.below bA x.below (Arr4.lt bA)) (by first | (simp; done) | (simp; omega)) _) (by first | (simp; done) | (simp; omega)) _, Arr4.other (Arr4.other (Arr4.below bB x.below (Arr4.lt bB)) (by first | (simp; done) | (simp; omega)) _) (by first | (simp; done) | (simp; omega)) _, Boxed.set _ (Boxed.away (Boxed.below b6 x.below (Boxed.lt b6)) (by first | (simp; done) | (simp; omega)) _), Boxed.away (Boxed.away (Boxed.below b7 x.below (Boxed.lt b7)) (by first | (simp; done) | (simp; omega)) _) (by first | (simp; done) | (simp; omega)) _,
        Arr4.other (Arr4.other (Arr4.below b8 x.below (Arr4.lt b8)) (by first | (simp; done) | (simp; omega)) _) (by first | (simp; done) | (simp; omega)) _, Arr4.other (Arr4.set (Arr4.below b10 x.below (Arr4.lt b10)) hk _) (by first | (simp; done) | (simp; omega)) _, Boxed.away (Boxed.away (Boxed.below bP x.below (Boxed.lt bP)) (by first | (simp; done) | (simp; omega)) _) (by first | (simp; done) | (simp; omega)) _⟩
    · exact ((hBw.trans (x.below.mono hBw.size)).setCell (p := ⟨_, k, none⟩) (by simp; omega) _).setCell (p := ⟨_, 0, none⟩) (by simp; omega) _
  case done =>
    rintro D ys W hD rfl ⟨⟨⟨bA, bB, b6, b7, b8, b10, bP⟩, hl⟩, hBw⟩ hK
    gi_wp2
    have hmx : Tryz.prog.follows .mixedOrders = true := by kernel_rfl
    have c6 := b6.cell
    have c0 := b10.cell (j := 0) (by omega)
    have c1 := b10.cell (j := 1) (by omega)
    have c2 := b10.cell (j := 2) (by omega)
    have c3 := b10.cell (j := 3) (by omega)
    have d0 := b8.cell (j := 0) (by omega)
    have d1 := b8.cell (j := 1) (by omega)
    have d2 := b8.cell (j := 2) (by omega)
    have d3 := b8.cell (j := 3) (by omega)
    have f0 := b8.frozen 0
    have f1 := b8.frozen 1
    have f2 := b8.frozen 2
    have f3 := b8.frozen 3
    clear hrun hA' hcP hJ0 hB0 hL0 hLn hl bA bB
    have b8' : Arr4 ((((W.setCell ⟨w.heap.size + 1 + 1 + 1 + 1, 0, none⟩ (.int .u64 (madeOf o nx l0 [0, 1, 2, 3] (fun _ => 0) 0))).setCell ⟨w.heap.size + 1 + 1 + 1 + 1, 1, none⟩ (.int .u64 (madeOf o nx l0 [0, 1, 2, 3] (fun _ => 0) 1))).setCell ⟨w.heap.size + 1 + 1 + 1 + 1, 2, none⟩ (.int .u64 (madeOf o nx l0 [0, 1, 2, 3] (fun _ => 0) 2))).setCell ⟨w.heap.size + 1 + 1 + 1 + 1, 3, none⟩ (.int .u64 (madeOf o nx l0 [0, 1, 2, 3] (fun _ => 0) 3))) (w.heap.size + 1 + 1 + 1 + 1) 25 (madeOf o nx l0 [0, 1, 2, 3] (fun _ => 0)) := by
      have h := Arr4.set (Arr4.set (Arr4.set (Arr4.set b8 (k := 0) (by omega) (madeOf o nx l0 [0, 1, 2, 3] (fun _ => 0) 0)) (k := 1) (by omega) (madeOf o nx l0 [0, 1, 2, 3] (fun _ => 0) 1)) (k := 2) (by omega) (madeOf o nx l0 [0, 1, 2, 3] (fun _ => 0) 2)) (k := 3) (by omega) (madeOf o nx l0 [0, 1, 2, 3] (fun _ => 0) 3)
      exact h
    have HB8 := Lib.hid b8'
    clear b8'
    gi_region_o
    all_goals gi_wp2
    all_goals
      have hK' := (((((KeepsOthers.setCell W ⟨w.heap.size + 1 + 1 + 1 + 1, 0, none⟩ (.int .u64 (madeOf o nx l0 [0, 1, 2, 3] (fun _ => 0) 0))).trans (KeepsOthers.setCell _ ⟨w.heap.size + 1 + 1 + 1 + 1, 1, none⟩ (.int .u64 (madeOf o nx l0 [0, 1, 2, 3] (fun _ => 0) 1)))).trans (KeepsOthers.setCell _ ⟨w.heap.size + 1 + 1 + 1 + 1, 2, none⟩ (.int .u64 (madeOf o nx l0 [0, 1, 2, 3] (fun _ => 0) 2)))).trans (KeepsOthers.setCell _ ⟨w.heap.size + 1 + 1 + 1 + 1, 3, none⟩ (.int .u64 (madeOf o nx l0 [0, 1, 2, 3] (fun _ => 0) 3)))).trans (KeepsOthers.drew _)).same D _ hK rfl
      have b8 := HB8.out
      have hBf := ((((hBw.setCell (p := ⟨w.heap.size + 1 + 1 + 1 + 1, 0, none⟩) (by simp; omega) (.int .u64 (madeOf o nx l0 [0, 1, 2, 3] (fun _ => 0) 0))).setCell (p := ⟨w.heap.size + 1 + 1 + 1 + 1, 1, none⟩) (by simp; omega) (.int .u64 (madeOf o nx l0 [0, 1, 2, 3] (fun _ => 0) 1))).setCell (p := ⟨w.heap.size + 1 + 1 + 1 + 1, 2, none⟩) (by simp; omega) (.int .u64 (madeOf o nx l0 [0, 1, 2, 3] (fun _ => 0) 2))).setCell (p := ⟨w.heap.size + 1 + 1 + 1 + 1, 3, none⟩) (by simp; omega) (.int .u64 (madeOf o nx l0 [0, 1, 2, 3] (fun _ => 0) 3))).drew
      refine ⟨by simp, .inl ⟨_, _, rfl, run_takeDeferred hK', ?_⟩⟩
      have b9 := Arr4.kept (Arr4.drew b8) (grownBy_putObj' _ D (.deferred none)) (fun e => by cases e; have := (show _ = _ from Arr4.drew b8).symm.trans hK'; cases this)
      have e0 := b9.cell (j := 0) (by omega)
      have e1 := b9.cell (j := 1) (by omega)
      have e2 := b9.cell (j := 2) (by omega)
      have e3 := b9.cell (j := 3) (by omega)
      exact ⟨_, by simp [results, Tryz.f100, go_sem, e0, e1, e2, e3], rfl, hBf.trans (belowK_b (w := w) (Nat.le_refl _) _ D _ _ (by omega) hK' rfl rfl)⟩
  case stop =>
    rintro D c pre W _ _ h _
    exact h.elim
end Go.Proofs.YtbbpmcebakckaaaGreatDoor

/- Numbers of 256 bits as four parts of 64: plain arithmetic, no Go. -/
namespace Go.Proofs.YtbbpmcebakckaaaGreatDoor

/-- Part k of a number, as an integer. -/
def lim (n : Nat) : Nat → Int
  | 0 => ((n % 18446744073709551616 : Nat) : Int)
  | 1 => ((n / 18446744073709551616 % 18446744073709551616 : Nat) : Int)
  | 2 => ((n / 340282366920938463463374607431768211456 % 18446744073709551616 : Nat) : Int)
  | _ => ((n / 6277101735386680763835789423207666416102355444464034512896 % 18446744073709551616 : Nat) : Int)

/-- A number of 64 bits. -/
def U64 (x : Int) : Prop := 0 ≤ x ∧ x < 18446744073709551616
def W256 (n : Nat) : Prop := n < 115792089237316195423570985008687907853269984665640564039457584007913129639936
/-- The number modulo 2^256. -/
def wmod (n : Nat) : Nat := n % 115792089237316195423570985008687907853269984665640564039457584007913129639936
/-- The number of four parts. -/
def num (z : Nat → Int) : Int := z 0 + z 1 * 18446744073709551616 + z 2 * 340282366920938463463374607431768211456 + z 3 * 6277101735386680763835789423207666416102355444464034512896

theorem lim_u64 (n k : Nat) : U64 (lim n k) := by
  unfold U64 lim
  split <;> constructor <;> omega
theorem lim_lo (n k : Nat) : 0 ≤ lim n k := (lim_u64 n k).1
theorem lim_hi (n k : Nat) : lim n k < 18446744073709551616 := (lim_u64 n k).2
theorem lim_zero (k : Nat) : lim 0 k = 0 := by unfold lim; split <;> rfl
theorem wmod_lt (n : Nat) : W256 (wmod n) := by unfold W256 wmod; omega
theorem wmod_of {n : Nat} (h : W256 n) : wmod n = n := by unfold W256 at h; unfold wmod; omega

theorem num_lim (n : Nat) (h : W256 n) : num (lim n) = n := by
  unfold W256 at h
  have e1 : n / 340282366920938463463374607431768211456 = n / 18446744073709551616 / 18446744073709551616 := by rw [Nat.div_div_eq_div_mul]
  have e2 : n / 6277101735386680763835789423207666416102355444464034512896 = n / 18446744073709551616 / 18446744073709551616 / 18446744073709551616 := by rw [Nat.div_div_eq_div_mul, Nat.div_div_eq_div_mul]
  unfold num lim
  rw [e1, e2]
  have h4 : n / 18446744073709551616 / 18446744073709551616 / 18446744073709551616 < 18446744073709551616 := by rw [← e2]; exact Nat.div_lt_of_lt_mul h
  generalize h1 : n / 18446744073709551616 = q1 at *
  generalize h2 : q1 / 18446744073709551616 = q2 at *
  generalize h3 : q2 / 18446744073709551616 = q3 at *
  have k0 : n % 18446744073709551616 + 18446744073709551616 * q1 = n := by rw [← h1]; exact Nat.mod_add_div n _
  have k1 : q1 % 18446744073709551616 + 18446744073709551616 * q2 = q1 := by rw [← h2]; exact Nat.mod_add_div q1 _
  have k2 : q2 % 18446744073709551616 + 18446744073709551616 * q3 = q2 := by rw [← h3]; exact Nat.mod_add_div q2 _
  have k3 : q3 % 18446744073709551616 = q3 := Nat.mod_eq_of_lt h4
  rw [k3]
  generalize n % 18446744073709551616 = r0 at *
  generalize q1 % 18446744073709551616 = r1 at *
  generalize q2 % 18446744073709551616 = r2 at *
  clear h e1 e2 h1 h2 h3 h4 k3
  show (r0 : Int) + (r1 : Int) * 18446744073709551616 + (r2 : Int) * 340282366920938463463374607431768211456 + (q3 : Int) * 6277101735386680763835789423207666416102355444464034512896 = n
  omega
theorem modOf (r q n : Nat) (hr : r < 18446744073709551616) (h : r + 18446744073709551616 * q = n) : n % 18446744073709551616 = r ∧ n / 18446744073709551616 = q := by
  subst h
  exact ⟨by rw [Nat.add_mul_mod_self_left]; exact Nat.mod_eq_of_lt hr, by rw [Nat.add_mul_div_left _ _ (by decide), Nat.div_eq_of_lt hr, Nat.zero_add]⟩
theorem lim_num (z : Nat → Int) (n : Nat) (h0 : U64 (z 0)) (h1 : U64 (z 1)) (h2 : U64 (z 2)) (h3 : U64 (z 3)) (h : num z = n) : lim n 0 = z 0 ∧ lim n 1 = z 1 ∧ lim n 2 = z 2 ∧ lim n 3 = z 3 := by
  obtain ⟨z0, e0⟩ := Int.eq_ofNat_of_zero_le h0.1
  obtain ⟨z1, e1⟩ := Int.eq_ofNat_of_zero_le h1.1
  obtain ⟨z2, e2⟩ := Int.eq_ofNat_of_zero_le h2.1
  obtain ⟨z3, e3⟩ := Int.eq_ofNat_of_zero_le h3.1
  have b0 : z0 < 18446744073709551616 := by have := h0.2; rw [e0] at this; omega
  have b1 : z1 < 18446744073709551616 := by have := h1.2; rw [e1] at this; omega
  have b2 : z2 < 18446744073709551616 := by have := h2.2; rw [e2] at this; omega
  have b3 : z3 < 18446744073709551616 := by have := h3.2; rw [e3] at this; omega
  have hn : z0 + 18446744073709551616 * (z1 + 18446744073709551616 * (z2 + 18446744073709551616 * z3)) = n := by
    unfold num at h; rw [e0, e1, e2, e3] at h; omega
  obtain ⟨m0, d0⟩ := modOf _ _ _ b0 hn
  obtain ⟨m1, d1⟩ := modOf _ _ _ b1 rfl
  obtain ⟨m2, d2⟩ := modOf _ _ _ b2 rfl
  have f1 : n / 340282366920938463463374607431768211456 = n / 18446744073709551616 / 18446744073709551616 := by rw [Nat.div_div_eq_div_mul]
  have f2 : n / 6277101735386680763835789423207666416102355444464034512896 = n / 18446744073709551616 / 18446744073709551616 / 18446744073709551616 := by rw [Nat.div_div_eq_div_mul, Nat.div_div_eq_div_mul]
  simp only [lim]
  rw [f1, f2, d0, d1, d2, m0, m1, m2, Nat.mod_eq_of_lt b3, e0, e1, e2, e3]
  exact ⟨rfl, rfl, rfl, rfl⟩
theorem num_lt (z : Nat → Int) (h0 : U64 (z 0)) (h1 : U64 (z 1)) (h2 : U64 (z 2)) (h3 : U64 (z 3)) : 0 ≤ num z ∧ num z < 115792089237316195423570985008687907853269984665640564039457584007913129639936 := by
  unfold U64 at *; unfold num; constructor <;> omega
/-- Four parts are a number's. -/
theorem num_pos (z : Nat → Int) (h0 : U64 (z 0)) (h1 : U64 (z 1)) (h2 : U64 (z 2)) (h3 : U64 (z 3)) : ∃ n : Nat, W256 n ∧ num z = n := by
  obtain ⟨a, b⟩ := num_lt z h0 h1 h2 h3
  refine ⟨(num z).toNat, ?_, (Int.toNat_of_nonneg a).symm⟩
  unfold W256; omega
theorem lim_ext {a b : Nat} (ha : W256 a) (hb : W256 b) (h : ∀ k, k < 4 → lim a k = lim b k) : a = b := by
  have e1 := num_lim a ha
  have e2 := num_lim b hb
  have : num (lim a) = num (lim b) := by unfold num; rw [h 0 (by omega), h 1 (by omega), h 2 (by omega), h 3 (by omega)]
  omega

/-! ### Sums and differences, part by part -/
def addO (a b : Nat) (k : Nat) (l : Int) : Int := (lim a k + lim b k + l) % 18446744073709551616
def addN (a b : Nat) (k : Nat) (l : Int) : Int := (lim a k + lim b k + l) / 18446744073709551616
def subO (a b : Nat) (k : Nat) (l : Int) : Int := (lim a k - lim b k - l) % 18446744073709551616
def subN (a b : Nat) (k : Nat) (l : Int) : Int := if lim a k < lim b k + l then 1 else 0
/-- A carry. -/
def Bit (l : Int) : Prop := 0 ≤ l ∧ l ≤ 1
theorem bit_zero : Bit 0 := ⟨by omega, by omega⟩
theorem addN_bit (a b k : Nat) (l : Int) (h : Bit l) : Bit (addN a b k l) := by
  have ha := lim_u64 a k; have hb := lim_u64 b k
  unfold U64 at *; unfold Bit at *; unfold addN; omega
theorem subN_bit (a b k : Nat) (l : Int) : Bit (subN a b k l) := by unfold Bit subN; split <;> omega
theorem addO_u64 (a b k : Nat) (l : Int) : U64 (addO a b k l) := by unfold U64 addO; omega
theorem subO_u64 (a b k : Nat) (l : Int) : U64 (subO a b k l) := by unfold U64 subO; omega

theorem add_step (x y l : Int) : (x + y + l) % 18446744073709551616 + 18446744073709551616 * ((x + y + l) / 18446744073709551616) = x + y + l := Int.emod_add_mul_ediv ..
theorem add_parts (a b : Nat) (ha : W256 a) (hb : W256 b) (z : Nat → Int) (l1 l2 l3 : Int) (h0 : z 0 = addO a b 0 0) (hl1 : l1 = addN a b 0 0) (h1 : z 1 = addO a b 1 l1) (hl2 : l2 = addN a b 1 l1)
    (h2 : z 2 = addO a b 2 l2) (hl3 : l3 = addN a b 2 l2) (h3 : z 3 = addO a b 3 l3) : lim (wmod (a + b)) 0 = z 0 ∧ lim (wmod (a + b)) 1 = z 1 ∧ lim (wmod (a + b)) 2 = z 2 ∧ lim (wmod (a + b)) 3 = z 3 := by
  have u0 : U64 (z 0) := by rw [h0]; exact addO_u64 ..
  have u1 : U64 (z 1) := by rw [h1]; exact addO_u64 ..
  have u2 : U64 (z 2) := by rw [h2]; exact addO_u64 ..
  have u3 : U64 (z 3) := by rw [h3]; exact addO_u64 ..
  refine lim_num z _ u0 u1 u2 u3 ?_
  have ea := num_lim a ha
  have eb := num_lim b hb
  have k0 : z 0 + 18446744073709551616 * l1 = lim a 0 + lim b 0 + 0 := by rw [h0, hl1]; exact add_step ..
  have k1 : z 1 + 18446744073709551616 * l2 = lim a 1 + lim b 1 + l1 := by rw [h1, hl2]; exact add_step ..
  have k2 : z 2 + 18446744073709551616 * l3 = lim a 2 + lim b 2 + l2 := by rw [h2, hl3]; exact add_step ..
  have k3 : z 3 + 18446744073709551616 * addN a b 3 l3 = lim a 3 + lim b 3 + l3 := by rw [h3]; exact add_step ..
  obtain ⟨n0, n1⟩ := num_lt z u0 u1 u2 u3
  have key : num z + 115792089237316195423570985008687907853269984665640564039457584007913129639936 * addN a b 3 l3 = ((a + b : Nat) : Int) := by
    rw [Int.natCast_add, ← ea, ← eb]
    unfold num
    clear ea eb h0 h1 h2 h3 hl1 hl2 hl3 u0 u1 u2 u3 n0 n1
    omega
  unfold wmod
  rw [Int.natCast_emod, ← key]
  generalize num z = t at *
  generalize addN a b 3 l3 = c at *
  show t = (t + 115792089237316195423570985008687907853269984665640564039457584007913129639936 * c) % 115792089237316195423570985008687907853269984665640564039457584007913129639936
  rw [Int.add_mul_emod_self_left, Int.emod_eq_of_lt n0 n1]

/-- The difference modulo 2^256. -/
def wsub (a b : Nat) : Nat := wmod (a + (115792089237316195423570985008687907853269984665640564039457584007913129639936 - b))
theorem sub_step (x y l : Int) (hx : U64 x) (hy : U64 y) (hl : Bit l) : (x - y - l) % 18446744073709551616 = x - y - l + 18446744073709551616 * (if x < y + l then 1 else 0) := by
  unfold U64 at *; unfold Bit at *
  split <;> omega
theorem sub_parts (a b : Nat) (ha : W256 a) (hb : W256 b) (z : Nat → Int) (l1 l2 l3 : Int) (h0 : z 0 = subO a b 0 0) (hl1 : l1 = subN a b 0 0) (h1 : z 1 = subO a b 1 l1) (hl2 : l2 = subN a b 1 l1)
    (h2 : z 2 = subO a b 2 l2) (hl3 : l3 = subN a b 2 l2) (h3 : z 3 = subO a b 3 l3) : lim (wsub a b) 0 = z 0 ∧ lim (wsub a b) 1 = z 1 ∧ lim (wsub a b) 2 = z 2 ∧ lim (wsub a b) 3 = z 3 := by
  have u0 : U64 (z 0) := by rw [h0]; exact subO_u64 ..
  have u1 : U64 (z 1) := by rw [h1]; exact subO_u64 ..
  have u2 : U64 (z 2) := by rw [h2]; exact subO_u64 ..
  have u3 : U64 (z 3) := by rw [h3]; exact subO_u64 ..
  have v1 : Bit l1 := by rw [hl1]; exact subN_bit ..
  have v2 : Bit l2 := by rw [hl2]; exact subN_bit ..
  have v3 : Bit l3 := by rw [hl3]; exact subN_bit ..
  refine lim_num z _ u0 u1 u2 u3 ?_
  have ea := num_lim a ha
  have eb := num_lim b hb
  have k0 : z 0 = lim a 0 - lim b 0 - 0 + 18446744073709551616 * l1 := by rw [h0, hl1]; exact sub_step _ _ _ (lim_u64 ..) (lim_u64 ..) bit_zero
  have k1 : z 1 = lim a 1 - lim b 1 - l1 + 18446744073709551616 * l2 := by rw [h1, hl2]; exact sub_step _ _ _ (lim_u64 ..) (lim_u64 ..) v1
  have k2 : z 2 = lim a 2 - lim b 2 - l2 + 18446744073709551616 * l3 := by rw [h2, hl3]; exact sub_step _ _ _ (lim_u64 ..) (lim_u64 ..) v2
  have k3 : z 3 = lim a 3 - lim b 3 - l3 + 18446744073709551616 * subN a b 3 l3 := by rw [h3]; exact sub_step _ _ _ (lim_u64 ..) (lim_u64 ..) v3
  obtain ⟨n0, n1⟩ := num_lt z u0 u1 u2 u3
  have key : num z = (a : Int) - b + 115792089237316195423570985008687907853269984665640564039457584007913129639936 * subN a b 3 l3 := by
    rw [← ea, ← eb]
    unfold num
    clear ea eb h0 h1 h2 h3 hl1 hl2 hl3 u0 u1 u2 u3 n0 n1 v1 v2 v3
    omega
  unfold wsub wmod
  rw [Int.natCast_emod, Int.natCast_add, Int.natCast_sub (by unfold W256 at hb; omega)]
  generalize num z = t at *
  generalize subN a b 3 l3 = c at *
  show t = ((a : Int) + (115792089237316195423570985008687907853269984665640564039457584007913129639936 - b)) % 115792089237316195423570985008687907853269984665640564039457584007913129639936
  have e : (a : Int) + (115792089237316195423570985008687907853269984665640564039457584007913129639936 - b) = t + 115792089237316195423570985008687907853269984665640564039457584007913129639936 * (1 - c) := by omega
  rw [e, Int.add_mul_emod_self_left, Int.emod_eq_of_lt n0 n1]

/-! ### The order -/
def cmpO (l : Int) (x y : Int) : Int := if x < y then -1 else if y < x then 1 else l
def cmpN (a b : Nat) (k : Nat) (l : Int) : Int := cmpO l (lim a k) (lim b k)
def Tri (l : Int) : Prop := l = -1 ∨ l = 0 ∨ l = 1
theorem cmpN_tri (a b k : Nat) (l : Int) (h : Tri l) : Tri (cmpN a b k l) := by unfold cmpN cmpO Tri at *; split <;> (try split) <;> simp_all
/-- The order of two numbers. -/
def wcmp (a b : Nat) : Int := if a < b then -1 else if b < a then 1 else 0
theorem cmp_parts (a b : Nat) (ha : W256 a) (hb : W256 b) : cmpN a b 3 (cmpN a b 2 (cmpN a b 1 (cmpN a b 0 0))) = wcmp a b := by
  have ea := num_lim a ha
  have eb := num_lim b hb
  have a0 := lim_u64 a 0; have a1 := lim_u64 a 1; have a2 := lim_u64 a 2; have a3 := lim_u64 a 3
  have b0 := lim_u64 b 0; have b1 := lim_u64 b 1; have b2 := lim_u64 b 2; have b3 := lim_u64 b 3
  unfold num at *; unfold cmpN cmpO wcmp; unfold U64 at *
  generalize lim a 0 = x0 at *; generalize lim a 1 = x1 at *; generalize lim a 2 = x2 at *; generalize lim a 3 = x3 at *
  generalize lim b 0 = y0 at *; generalize lim b 1 = y1 at *; generalize lim b 2 = y2 at *; generalize lim b 3 = y3 at *
  by_cases h3 : x3 < y3
  · rw [if_pos h3, if_pos (by omega)]
  · by_cases h3' : y3 < x3
    · rw [if_neg h3, if_pos h3', if_neg (by omega), if_pos (by omega)]
    · obtain rfl : x3 = y3 := by omega
      rw [if_neg h3, if_neg h3]
      by_cases h2 : x2 < y2
      · rw [if_pos h2, if_pos (by omega)]
      · by_cases h2' : y2 < x2
        · rw [if_neg h2, if_pos h2', if_neg (by omega), if_pos (by omega)]
        · obtain rfl : x2 = y2 := by omega
          rw [if_neg h2, if_neg h2]
          by_cases h1 : x1 < y1
          · rw [if_pos h1, if_pos (by omega)]
          · by_cases h1' : y1 < x1
            · rw [if_neg h1, if_pos h1', if_neg (by omega), if_pos (by omega)]
            · obtain rfl : x1 = y1 := by omega
              rw [if_neg h1, if_neg h1]
              by_cases h0 : x0 < y0
              · rw [if_pos h0, if_pos (by omega)]
              · by_cases h0' : y0 < x0
                · rw [if_neg h0, if_pos h0', if_neg (by omega), if_pos (by omega)]
                · rw [if_neg h0, if_neg h0', if_neg (by omega), if_neg (by omega)]
end Go.Proofs.YtbbpmcebakckaaaGreatDoor
