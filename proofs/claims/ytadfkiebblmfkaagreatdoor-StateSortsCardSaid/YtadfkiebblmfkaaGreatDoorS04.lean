import Derived.RangeFuncNested
import Derived.RangeFuncBound
import Derived.RangeFuncCalls
import Derived.RangeFuncLeaves
import Derived.RangeFuncBox
import Derived.Shelf.Abstract
import Derived.Shelf.RegionOpen
import Derived.WalkKit
import Derived.OwnWalkIn
import Derived.TacticsInMore
import Derived.LoopNIn
import Derived.LoopIn
import Derived.Lib.Hide
import Derived.Test.YtadfkiebblmfkaaGreatDoorS02
import Derived.Test.YtadfkiebblmfkaaGreatDoorProg
/- The iterator over a word's four parts. Condition: the pointer leads to an array of four numbers that the loop's body leaves alone. -/
namespace Go.Proofs.YtadfkiebblmfkaaGreatDoor
open Go Go.RowKit Go.Shelf
attribute [local go_sem] Oper.semAt_some

/-- What has come when k rounds are over. -/
def upto {α : Type} (f : Nat → α) (k : Nat) : List α := (List.range k).map f
theorem upto_succ {α : Type} (f : Nat → α) (k : Nat) : upto f (k + 1) = upto f k ++ [f k] := by simp [upto, List.range_succ]
theorem upto_length {α : Type} (f : Nat → α) (k : Nat) : (upto f k).length = k := by simp [upto]

/-- The blocks of the list are as they were. -/
def KeepsAt (L : List Nat) (W W' : World) : Prop := ∀ b, b ∈ L → W'.heap[b]? = W.heap[b]?
theorem KeepsAt.refl (L : List Nat) (W : World) : KeepsAt L W W := fun _ _ => rfl
theorem KeepsAt.trans {L : List Nat} {A B C : World} (h : KeepsAt L A B) (k : KeepsAt L B C) : KeepsAt L A C := fun b hb => (k b hb).trans (h b hb)
theorem KeepsAt.cell {L : List Nat} {W W' : World} (h : KeepsAt L W W') {p : Addr} (hp : p.block ∈ L) : W'.cell? p = W.cell? p := World.cell?_of_block (w := W) (h p.block hp)
theorem KeepsAt.frozen {L : List Nat} {W W' : World} (h : KeepsAt L W W') {p : Addr} (hp : p.block ∈ L) : W'.frozen? p = W.frozen? p := World.frozen?_of_block (w := W) (h p.block hp)
theorem KeepsAt.drew {L : List Nat} {W W' : World} (h : KeepsAt L W W') : KeepsAt L W W'.drew := h
theorem KeepsAt.alloc {L : List Nat} {W W' : World} (h : KeepsAt L W W') (hL : ∀ b, b ∈ L → b < W'.heap.size) (o : Obj) : KeepsAt L W (W'.alloc o) := fun b hb => (Below.heap_alloc _ _ _ (hL b hb)).trans (h b hb)
theorem KeepsAt.setCell {L : List Nat} {W W' : World} (h : KeepsAt L W W') {p : Addr} (hp : p.block ∉ L) (v : Value) : KeepsAt L W (W'.setCell p v) := fun b hb => (Below.heap_setCell _ _ _ _ (fun e => hp (e ▸ hb))).trans (h b hb)
theorem KeepsAt.below {L : List Nat} {W A B : World} {n : Nat} (h : KeepsAt L W A) (hb : Below n A B) (hL : ∀ b, b ∈ L → b < n) : KeepsAt L W B := fun b hm => (hb.block b (hL b hm)).trans (h b hm)
theorem KeepsAt.b {L : List Nat} {w : World} (hL : ∀ b, b ∈ L → b < w.heap.size) (W : World) (l : Nat) (o o' : Obj) (hl : w.heap.size ≤ l) (_ : W.heap[l]? = some o) (_ : o.isCells = false) (_ : o.isWalk = false) : KeepsAt L W (W.putObj l o') :=
  fun b hb => World.putObj_heap_other (by have := hL b hb; omega)

set_option maxRecDepth 100000 in
set_option maxHeartbeats 2000000 in
theorem parts1_in {α : Type} (f : Nat → α) (encs : α → Array Value) (F : Fence) (n : Nat) (hF : F.fn 154) (hro : F.round = none) (hn : 1 ≤ n) (l Bs b : Nat) (z : Nat → Int)
    (henc : ∀ k, k < 4 → encs (f k) = #[.int .i64 (k : Int), .int .u64 (z k)]) (J Jx : List α → World → Prop)
    (hY : ∀ pre x W, J pre W → pre.length < 4 → YieldAt F (n - 1) Tryz.prog l (encs x) W fun e W' =>
      (e = .returned (.bool true) ∧ J (pre ++ [x]) W' ∧ KeepsAt [b, Bs] W W') ∨ (e = .returned (.bool false) ∧ Jx (pre ++ [x]) W'))
    (W : World) (hBs : W.cell? ⟨Bs, 0, none⟩ = some (.pointer (some ⟨b, 0, none⟩))) (hc : ∀ j, j < 4 → W.cell? ⟨b, j, none⟩ = some (.int .u64 (z j))) (h0 : J [] W) :
    CallsIn F n Tryz.prog 154 #[.func (.yield l) #[] #[], .pointer (some ⟨Bs, 0, none⟩)] W fun e W' => (∃ v, e = .returned v) ∧
      ((∃ ys, ys = upto f 4 ∧ J ys W') ∨ (∃ pre, (∃ k, k ≤ 4 ∧ pre = upto f k) ∧ Jx pre W')) := by
  refine callsIn_of_wp Tryz.func154 rfl hF ?_ hro
  simp only [Tryz.ntmps154, List.size_toArray, List.length_cons, List.length_nil, Nat.reduceAdd, Nat.reduceSub, Array.replicate_succ, Array.replicate_zero, List.push_toArray, List.append_toArray, List.nil_append, List.cons_append]
  gi_wp2
  gi_loopw [4] (fun i wr => ∃ k : Nat, k ≤ 4 ∧ i = .int .i64 k ∧ J (upto f k) wr ∧ KeepsAt [b, Bs] W wr)
    (fun i _ => 4 - (intOf i).toNat)
  case atStart => exact ⟨0, Nat.zero_le _, rfl, h0, KeepsAt.refl _ _⟩
  case round =>
    obtain ⟨k, hk, rfl, hJs, hnx⟩ := hrel
    by_cases hlt : k < 4
    · obtain ⟨fn, tmps, assign, body, hy, hR⟩ := hY _ (f k) wr hJs (by rw [upto_length]; exact hlt)
      rw [henc k hlt] at hy
      have hcx : wr.cell? ⟨b, k, none⟩ = some (.int .u64 (z k)) := (hnx.cell (p := ⟨b, k, none⟩) (by simp)).trans (hc k hlt)
      have hbx : wr.cell? ⟨Bs, 0, none⟩ = some (.pointer (some ⟨b, 0, none⟩)) := (hnx.cell (p := ⟨Bs, 0, none⟩) (by simp)).trans hBs
      clear hc hBs henc
      gi_wp2
      refine hR.mono ?_
      rintro e W3 (⟨rfl, hJ3, hk3⟩ | ⟨rfl, hJx3⟩)
      · gi_wp2
        go_roundw
        case rel => exact ⟨k + 1, by omega, by simp, by rw [upto_succ]; exact hJ3, hnx.trans hk3⟩
        case measure => simp [intOf]; omega
      · gi_wp2
        refine bodyPost_ret (results_none rfl _ _ _) rfl ?_
        exact ⟨⟨_, rfl⟩, .inr ⟨_, ⟨k + 1, by omega, (upto_succ _ _).symm⟩, hJx3⟩⟩
    · obtain rfl : k = 4 := by omega
      gi_wp2
      go_end0
      exact ⟨⟨_, rfl⟩, .inl ⟨_, rfl, hJs⟩⟩

/-- The k-th place. -/
def place (k : Nat) : Fin 4 := if h : k < 4 then ⟨k, h⟩ else 0
theorem place_val {k : Nat} (h : k < 4) : (place k).val = k := by simp [place, h]
theorem places_all : upto place 4 = [0, 1, 2, 3] := rfl

/-- The iterator's contract: places and parts, in their order. -/
theorem parts_stops (F : Fence) (n : Nat) (hF : F.fn 154) (hro : F.round = none) (hn : 1 ≤ n) (Bs b : Nat) (z : Nat → Int) (w : World) (hBs : Bs < w.heap.size) (hb : b < w.heap.size)
    (hcB : w.cell? ⟨Bs, 0, none⟩ = some (.pointer (some ⟨b, 0, none⟩))) (hc : ∀ j, j < 4 → w.cell? ⟨b, j, none⟩ = some (.int .u64 (z j))) :
    SeqStopsK F n Tryz.prog 154 #[.pointer (some ⟨Bs, 0, none⟩)] (fun x : Fin 4 => #[Value.int .i64 (x.val : Int), Value.int .u64 (z x.val)]) (KeepsAt [b, Bs]) (fun ys => ys = [0, 1, 2, 3])
      (fun pre => ∃ k, k ≤ 4 ∧ pre = upto place k) 4 w := fun l J Jx W hW _ _ hY h0 => by
  exact parts1_in place _ F n hF hro hn l Bs b z (fun k hk => by simp only [place_val hk]) J Jx hY W ((hW.cell (p := ⟨Bs, 0, none⟩) hBs).trans hcB) (fun j hj => (hW.cell (p := ⟨b, j, none⟩) hb).trans (hc j hj)) h0

/-! ### A word that lies in a block of its own -/

/-- Block B holds four numbers. -/
def Arr4 (W : World) (B : Nat) (t : TypeId) (m : Nat → Int) : Prop := W.heap[B]? = some (.cells #[.int .u64 (m 0), .int .u64 (m 1), .int .u64 (m 2), .int .u64 (m 3)] t (0, 0))
theorem Arr4.lt {W : World} {B : Nat} {t : TypeId} {m : Nat → Int} (h : Arr4 W B t m) : B < W.heap.size := (Array.getElem?_eq_some_iff.1 h).1
theorem Arr4.cell {W : World} {B : Nat} {t : TypeId} {m : Nat → Int} (h : Arr4 W B t m) {j : Nat} (hj : j < 4) : W.cell? ⟨B, j, none⟩ = some (.int .u64 (m j)) := by
  simp only [World.cell?, show W.heap[B]? = _ from h]
  match j, hj with
  | 0, _ => rfl
  | 1, _ => rfl
  | 2, _ => rfl
  | 3, _ => rfl
theorem Arr4.frozen {W : World} {B : Nat} {t : TypeId} {m : Nat → Int} (h : Arr4 W B t m) (j : Nat) : W.frozen? ⟨B, j, none⟩ = false := by
  simp [World.frozen?, show W.heap[B]? = _ from h]
theorem Arr4.kept {W W' : World} {row : Option Nat} {B : Nat} {t : TypeId} {m : Nat → Int} (h : Arr4 W B t m) (hg : W.grownBy W' row) (hne : some B ≠ row) : Arr4 W' B t m := (hg.block B h.lt hne).trans h
theorem Arr4.below {W W' : World} {B n : Nat} {t : TypeId} {m : Nat → Int} (h : Arr4 W B t m) (hb : Below n W W') (hlt : B < n) : Arr4 W' B t m := (hb.block B hlt).trans h
theorem Arr4.alloc {W : World} {B : Nat} {t : TypeId} {m : Nat → Int} (h : Arr4 W B t m) (o : Obj) : Arr4 (W.alloc o) B t m := h.kept (World.grownBy_alloc W o none) (by simp)
theorem Arr4.drew {W : World} {B : Nat} {t : TypeId} {m : Nat → Int} (h : Arr4 W B t m) : Arr4 W.drew B t m := h
theorem Arr4.new (W : World) (t : TypeId) (a b c d : Int) : Arr4 (W.alloc (.cells #[.int .u64 a, .int .u64 b, .int .u64 c, .int .u64 d] t)) W.heap.size t (fun j => if j = 0 then a else if j = 1 then b else if j = 2 then c else d) := World.alloc_heap_new W _
theorem Arr4.set {W : World} {B : Nat} {t : TypeId} {m : Nat → Int} (h : Arr4 W B t m) {k : Nat} (hk : k < 4) (v : Int) : Arr4 (W.setCell ⟨B, k, none⟩ (.int .u64 v)) B t (fun j => if j = k then v else m j) := by
  obtain ⟨hlt, he⟩ := Array.getElem?_eq_some_iff.1 h
  show (W.heap.modify B _)[B]? = _
  rw [Array.getElem?_eq_getElem (by rw [Array.size_modify]; exact hlt), Array.getElem_modify_self, he]
  match k, hk with
  | 0, _ => rfl
  | 1, _ => rfl
  | 2, _ => rfl
  | 3, _ => rfl
theorem Arr4.other {W : World} {B : Nat} {t : TypeId} {m : Nat → Int} (h : Arr4 W B t m) {p : Addr} (hne : B ≠ p.block) (v : Value) : Arr4 (W.setCell p v) B t m :=
  (Below.heap_setCell W p v B hne).trans h
theorem Arr4.own {β : Type} (B : Nat) (t : TypeId) (f : β → Nat → Int) : Own (fun s W => Arr4 W B t (f s)) := fun s X Y row hs hg hrow =>
  hs.kept hg (fun e' => by obtain ⟨o, ho, hc⟩ := hrow B e'.symm; rw [show X.heap[B]? = _ from hs] at ho; cases ho; cases hc)
theorem Boxed.below {W W' : World} {B n : Nat} {t : TypeId} {v : Value} (h : Boxed W B t v) (hb : Below n W W') (hlt : B < n) : Boxed W' B t v := (hb.block B hlt).trans h
theorem Boxed.away {W : World} {B : Nat} {t : TypeId} {v : Value} (h : Boxed W B t v) {p : Addr} (hne : B ≠ p.block) (u : Value) : Boxed (W.setCell p u) B t v :=
  (Below.heap_setCell W p u B hne).trans h

set_option maxHeartbeats 1000000 in
/-- parts(p): the pointer is boxed; the function value captures the box. -/
theorem parts_any (p : Option Addr) (w : World) :
    Calls Tryz.prog 130 #[.pointer p] w fun e w' => e = .returned (.func (.func 154) #[] #[.pointer (some ⟨w.heap.size, 0, none⟩)]) ∧ w' = w.alloc (.cells #[.pointer p] 160) := by
  go_enter Tryz.func130, Tryz.ntmps130
  go_wp2
  go_ret
  exact ⟨rfl, rfl⟩
end Go.Proofs.YtadfkiebblmfkaaGreatDoor

/- join: two words, part by part. Condition: what the pair's function answers for the parts. -/
namespace Go.Proofs.YtadfkiebblmfkaaGreatDoor
open Go Go.RowKit Go.Shelf
attribute [local go_sem] Oper.semAt_some Grows wide_fn

/-- What is left over when the places of a list have been gone through. -/
def leftOf (nx : Nat → Int → Int) (l0 : Int) (pre : List (Fin 4)) : Int := pre.foldl (fun l k => nx k.val l) l0
theorem leftOf_snoc (nx : Nat → Int → Int) (l0 : Int) (pre : List (Fin 4)) (k : Fin 4) : leftOf nx l0 (pre ++ [k]) = nx k.val (leftOf nx l0 pre) := by simp [leftOf]
/-- What is made. -/
def madeOf (o nx : Nat → Int → Int) : Int → List (Fin 4) → (Nat → Int) → Nat → Int
  | _, [], m => m
  | l, k :: r, m => madeOf o nx (nx k.val l) r (fun j => if j = k.val then o k.val l else m j)
theorem madeOf_snoc (o nx : Nat → Int → Int) (k : Fin 4) : ∀ (pre : List (Fin 4)) (l0 : Int) (m : Nat → Int), madeOf o nx l0 (pre ++ [k]) m = fun j => if j = k.val then o k.val (leftOf nx l0 pre) else madeOf o nx l0 pre m j
  | [], l0, m => rfl
  | x :: r, l0, m => by
    show madeOf o nx (nx x.val l0) (r ++ [k]) _ = _
    rw [madeOf_snoc o nx k r]
    rfl

end Go.Proofs.YtadfkiebblmfkaaGreatDoor

/- join, with an order left over: two words, part by part. Condition: what the pair's function answers for the parts. -/
namespace Go.Proofs.YtadfkiebblmfkaaGreatDoor
open Go Go.RowKit Go.Shelf
attribute [local go_sem] Oper.semAt_some Grows wide_fn

/-- What the call's own blocks hold between two rounds. -/
def JoinIAt (H : Nat) (zA zB : Nat → Int) (fv : Value) (m : Nat → Int) (l : Int) (W : World) : Prop :=
  Arr4 W H 28 zA ∧ Arr4 W (H + 1) 28 zB ∧ Boxed W (H + 1 + 1) 3 (.int .i64 l) ∧ Boxed W (H + 1 + 1 + 1) 200 fv ∧
    Arr4 W (H + 1 + 1 + 1 + 1) 28 (fun _ => 0) ∧ Arr4 W (H + 1 + 1 + 1 + 1 + 1) 28 m ∧ Boxed W (H + 1 + 1 + 1 + 1 + 1 + 1) 160 (.pointer (some ⟨H, 0, none⟩))
theorem JoinIAt.own {β : Type} (H : Nat) (zA zB : Nat → Int) (fv : Value) (m : β → Nat → Int) (l : β → Int) : Own (fun s W => JoinIAt H zA zB fv (m s) (l s) W) := fun s X Y row hs hg hr =>
  ⟨Arr4.own H _ (fun _ : β => zA) s X Y row hs.1 hg hr, Arr4.own (H + 1) _ (fun _ : β => zB) s X Y row hs.2.1 hg hr, boxed_own (H + 1 + 1) _ (fun s : β => Value.int .i64 (l s)) s X Y row hs.2.2.1 hg hr, boxed_own (H + 1 + 1 + 1) _ (fun _ : β => fv) s X Y row hs.2.2.2.1 hg hr,
    Arr4.own (H + 1 + 1 + 1 + 1) _ (fun _ : β => fun _ => 0) s X Y row hs.2.2.2.2.1 hg hr, Arr4.own (H + 1 + 1 + 1 + 1 + 1) _ m s X Y row hs.2.2.2.2.2.1 hg hr, boxed_own (H + 1 + 1 + 1 + 1 + 1 + 1) _ (fun _ : β => _) s X Y row hs.2.2.2.2.2.2 hg hr⟩

set_option maxRecDepth 100000 in
set_option maxHeartbeats 2000000 in
theorem join_int (zA zB : Nat → Int) (o nx : Nat → Int → Int) (l0 : Int) (Lb : Int → Prop) (hL0 : Lb l0) (hLn : ∀ k, k < 4 → ∀ l, Lb l → Lb (nx k l))
    (hrun : ∀ k, k < 4 → ∀ l, Lb l → Ret Tryz.prog 163 #[.int .u64 (zA k), .int .u64 (zB k), .int .i64 l] (.tuple #[.int .u64 (o k l), .int .i64 (nx k l)]))
    (w : World) :
    Calls Tryz.prog 162 #[.agg #[.int .u64 (zA 0), .int .u64 (zA 1), .int .u64 (zA 2), .int .u64 (zA 3)], .agg #[.int .u64 (zB 0), .int .u64 (zB 1), .int .u64 (zB 2), .int .u64 (zB 3)], .int .i64 l0, .func (.func 163) #[] #[]] w fun e w' =>
      e = .returned (.tuple #[.agg #[.int .u64 (madeOf o nx l0 [0, 1, 2, 3] (fun _ => 0) 0), .int .u64 (madeOf o nx l0 [0, 1, 2, 3] (fun _ => 0) 1), .int .u64 (madeOf o nx l0 [0, 1, 2, 3] (fun _ => 0) 2), .int .u64 (madeOf o nx l0 [0, 1, 2, 3] (fun _ => 0) 3)], .int .i64 (leftOf nx l0 [0, 1, 2, 3])]) ∧ Below w.heap.size w w' := by
  have h1 : 1 ≤ 3 := by omega
  refine (callsIn_wide (n := 3)).1 ?_
  refine callsIn_of_wp_marks Tryz.func162 rfl trivial ?_ rfl
  simp only [Tryz.ntmps162, List.size_toArray, List.length_cons, List.length_nil, Nat.reduceAdd, Nat.reduceSub, Array.replicate_succ, Array.replicate_zero, List.push_toArray, List.append_toArray, List.nil_append, List.cons_append]
  gi_wp2_with (gi_at_call 130; refine (callsIn_free free_wide (parts_any _ _)).mono ?_; rintro e w' ⟨rfl, rfl⟩)
  obtain ⟨W0, hW0⟩ : ∃ W0, (((((((w.alloc (.cells #[.int .u64 (zA 0), .int .u64 (zA 1), .int .u64 (zA 2), .int .u64 (zA 3)] 28)).alloc (.cells #[.int .u64 (zB 0), .int .u64 (zB 1), .int .u64 (zB 2), .int .u64 (zB 3)] 28)).alloc (.cells #[.int .i64 l0] 3)).alloc (.cells #[.func (.func 163) #[] #[]] 200)).alloc (.cells #[.int .u64 0, .int .u64 0, .int .u64 0, .int .u64 0] 28)).alloc (.cells #[.int .u64 0, .int .u64 0, .int .u64 0, .int .u64 0] 28)).alloc (.cells #[.pointer (some ⟨w.heap.size, 0, none⟩)] 160)) = W0 := ⟨_, rfl⟩
  have hB0 : Below w.heap.size w W0 := by
    rw [← hW0]; exact (((((((Below.refl _ w).alloc (by first | exact Nat.le_refl _ | (simp; done) | (simp; omega)) _).alloc (by first | exact Nat.le_refl _ | (simp; done) | (simp; omega)) _).alloc (by first | exact Nat.le_refl _ | (simp; done) | (simp; omega)) _).alloc (by first | exact Nat.le_refl _ | (simp; done) | (simp; omega)) _).alloc (by first | exact Nat.le_refl _ | (simp; done) | (simp; omega)) _).alloc (by first | exact Nat.le_refl _ | (simp; done) | (simp; omega)) _).alloc (by first | exact Nat.le_refl _ | (simp; done) | (simp; omega)) _
  have hsz : W0.heap.size = w.heap.size + 7 := by rw [← hW0]; simp
  have hJ0 : JoinIAt w.heap.size zA zB (.func (.func 163) #[] #[]) (fun _ => 0) l0 W0 := by
    rw [← hW0]
    refine ⟨?_, ?_, ?_, ?_, ?_, ?_, ?_⟩
    · have h := World.alloc_heap_new w (.cells #[.int .u64 (zA 0), .int .u64 (zA 1), .int .u64 (zA 2), .int .u64 (zA 3)] 28)
      exact (((((((show Arr4 _ _ _ zA from h).alloc _).alloc _).alloc _).alloc _).alloc _).alloc _)
    · have h := World.alloc_heap_new (w.alloc (.cells #[.int .u64 (zA 0), .int .u64 (zA 1), .int .u64 (zA 2), .int .u64 (zA 3)] 28)) (.cells #[.int .u64 (zB 0), .int .u64 (zB 1), .int .u64 (zB 2), .int .u64 (zB 3)] 28)
      rw [World.size_alloc] at h
      exact ((((((show Arr4 _ _ _ zB from h).alloc _).alloc _).alloc _).alloc _).alloc _)
    · have h := Boxed.new ((w.alloc (.cells #[.int .u64 (zA 0), .int .u64 (zA 1), .int .u64 (zA 2), .int .u64 (zA 3)] 28)).alloc (.cells #[.int .u64 (zB 0), .int .u64 (zB 1), .int .u64 (zB 2), .int .u64 (zB 3)] 28)) 3 (.int .i64 l0)
      rw [World.size_alloc, World.size_alloc] at h
      exact ((((h.alloc _).alloc _).alloc _).alloc _)
    · have h := Boxed.new (((w.alloc (.cells #[.int .u64 (zA 0), .int .u64 (zA 1), .int .u64 (zA 2), .int .u64 (zA 3)] 28)).alloc (.cells #[.int .u64 (zB 0), .int .u64 (zB 1), .int .u64 (zB 2), .int .u64 (zB 3)] 28)).alloc (.cells #[.int .i64 l0] 3)) 200 (.func (.func 163) #[] #[])
      rw [World.size_alloc, World.size_alloc, World.size_alloc] at h
      exact (((h.alloc _).alloc _).alloc _)
    · have h := World.alloc_heap_new ((((w.alloc (.cells #[.int .u64 (zA 0), .int .u64 (zA 1), .int .u64 (zA 2), .int .u64 (zA 3)] 28)).alloc (.cells #[.int .u64 (zB 0), .int .u64 (zB 1), .int .u64 (zB 2), .int .u64 (zB 3)] 28)).alloc (.cells #[.int .i64 l0] 3)).alloc (.cells #[.func (.func 163) #[] #[]] 200)) (.cells #[.int .u64 0, .int .u64 0, .int .u64 0, .int .u64 0] 28)
      rw [World.size_alloc, World.size_alloc, World.size_alloc, World.size_alloc] at h
      exact (((show Arr4 _ _ _ (fun _ => 0) from h).alloc _).alloc _)
    · have h := World.alloc_heap_new (((((w.alloc (.cells #[.int .u64 (zA 0), .int .u64 (zA 1), .int .u64 (zA 2), .int .u64 (zA 3)] 28)).alloc (.cells #[.int .u64 (zB 0), .int .u64 (zB 1), .int .u64 (zB 2), .int .u64 (zB 3)] 28)).alloc (.cells #[.int .i64 l0] 3)).alloc (.cells #[.func (.func 163) #[] #[]] 200)).alloc (.cells #[.int .u64 0, .int .u64 0, .int .u64 0, .int .u64 0] 28)) (.cells #[.int .u64 0, .int .u64 0, .int .u64 0, .int .u64 0] 28)
      rw [World.size_alloc, World.size_alloc, World.size_alloc, World.size_alloc, World.size_alloc] at h
      exact ((show Arr4 _ _ _ (fun _ => 0) from h).alloc _)
    · have h := Boxed.new ((((((w.alloc (.cells #[.int .u64 (zA 0), .int .u64 (zA 1), .int .u64 (zA 2), .int .u64 (zA 3)] 28)).alloc (.cells #[.int .u64 (zB 0), .int .u64 (zB 1), .int .u64 (zB 2), .int .u64 (zB 3)] 28)).alloc (.cells #[.int .i64 l0] 3)).alloc (.cells #[.func (.func 163) #[] #[]] 200)).alloc (.cells #[.int .u64 0, .int .u64 0, .int .u64 0, .int .u64 0] 28)).alloc (.cells #[.int .u64 0, .int .u64 0, .int .u64 0, .int .u64 0] 28)) 160 (.pointer (some ⟨w.heap.size, 0, none⟩))
      rw [World.size_alloc, World.size_alloc, World.size_alloc, World.size_alloc, World.size_alloc, World.size_alloc] at h
      exact h
  rw [hW0]
  clear hW0
  have hcP := Boxed.cell hJ0.2.2.2.2.2.2
  have hA' : ∀ j, j < 4 → W0.cell? ⟨w.heap.size, j, none⟩ = some (.int .u64 (zA j)) := fun j hj => hJ0.1.cell hj
  refine wpIn_rangeFunc_ownG rfl h1 (gf := 154) (lb := #[.pointer (some ⟨w.heap.size + 1 + 1 + 1 + 1 + 1 + 1, 0, none⟩)]) rfl trivial (enters_of Tryz.func154 (by kernel_rfl) rfl)
    (parts_stops Fence.wide _ trivial rfl (by omega) _ (w.heap.size) zA W0 (by omega) (by omega) hcP hA') KeepsAt.trans (KeepsAt.b (by simp; omega)) (Below.refl _ _) (fun _ => rfl)
    (fun pre W => (JoinIAt w.heap.size zA zB (.func (.func 163) #[] #[]) (madeOf o nx l0 pre (fun _ => 0)) (leftOf nx l0 pre) W ∧ Lb (leftOf nx l0 pre)) ∧ Below w.heap.size w W)
    (fun _ _ _ => False)
    ?hI
    (fun _ _ _ _ _ hs _ _ => hs)
    ⟨⟨hJ0, hL0⟩, hB0⟩
    (fun x => { tmps := #[.agg #[.int .u64 (zA 0), .int .u64 (zA 1), .int .u64 (zA 2), .int .u64 (zA 3)], .agg #[.int .u64 (zB 0), .int .u64 (zB 1), .int .u64 (zB 2), .int .u64 (zB 3)], .int .i64 l0, .func (.func 163) #[] #[], .pointer (some ⟨w.heap.size, 0, none⟩), .pointer (some ⟨w.heap.size + 1, 0, none⟩), .pointer (some ⟨w.heap.size + 1 + 1, 0, none⟩), .pointer (some ⟨w.heap.size + 1 + 1 + 1, 0, none⟩), .pointer (some ⟨w.heap.size + 1 + 1 + 1 + 1, 0, none⟩), .int .i64 0, .pointer (some ⟨w.heap.size + 1 + 1 + 1 + 1 + 1, 0, none⟩), .int .i64 (x.val : Int), .int .u64 (zA x.val), .agg #[.int .u64 0, .int .u64 0, .int .u64 0, .int .u64 0], .func (.func 154) #[] #[.pointer (some ⟨w.heap.size + 1 + 1 + 1 + 1 + 1 + 1, 0, none⟩)], .int .i64 (x.val : Int), .int .u64 (zA x.val), undef, undef, undef, undef, undef, undef, undef, undef, undef, undef, undef, undef, undef, undef], defers := [] }) ?assign ?body ?done ?stop
  case hI => exact OwnFrom.and (OwnFrom.and (Own.from (JoinIAt.own _ _ _ _ _ _) _) (ownFrom_pure _ _)) (ownFrom_below (Nat.le_refl _) (by omega))
  case assign =>
    intro l x W K hK
    gi_wp2
    exact hK
  case body =>
    rintro l pre ⟨k, hk⟩ W ⟨⟨⟨bA, bB, b6, b7, b8, b10, bP⟩, hl⟩, hBw⟩ _
    have hmx : Tryz.prog.follows .mixedOrders = true := by kernel_rfl
    have c6 := b6.cell
    have c7 := b7.cell
    have cB := bB.cell hk
    have f6 := b6.frozen
    have f10 := b10.frozen k
    have c10 := b10.cell hk
    have hk0 : (0 : Int) ≤ (k : Int) := by omega
    have hk4 : (k : Int) < 4 := by omega
    have hr := hrun k hk _ hl
    clear hrun hA' hcP
    have hM := Lib.hid (madeOf_snoc o nx ⟨k, hk⟩ pre l0 (fun _ => 0))
    have hL := Lib.hid (leftOf_snoc nx l0 pre ⟨k, hk⟩)
    have hLb := hLn k hk _ hl
    generalize leftOf nx l0 pre = lx at *
    generalize madeOf o nx l0 pre (fun _ => 0) = mx at *
    have e6 : ∀ x : Ext W, x.w.cell? ⟨w.heap.size + 1 + 1, 0, none⟩ = some (.int .i64 lx) := fun x => (x.cell b6.lt).trans c6
    have e7 : ∀ x : Ext W, x.w.cell? ⟨w.heap.size + 1 + 1 + 1, 0, none⟩ = some (.func (.func 163) #[] #[]) := fun x => (x.cell b7.lt).trans c7
    have eB : ∀ x : Ext W, x.w.cell? ⟨w.heap.size + 1, k, none⟩ = some (.int .u64 (zB k)) := fun x => (x.cell (p := ⟨_, k, none⟩) bB.lt).trans cB
    have e10 : ∀ x : Ext W, x.w.cell? ⟨w.heap.size + 1 + 1 + 1 + 1 + 1, k, none⟩ = some (.int .u64 (mx k)) := fun x => (x.cell (p := ⟨_, k, none⟩) b10.lt).trans c10
    have g6 : ∀ x : Ext W, x.w.frozen? ⟨w.heap.size + 1 + 1, 0, none⟩ = false := fun x => (x.frozen b6.lt).trans f6
    have g10 : ∀ x : Ext W, x.w.frozen? ⟨w.heap.size + 1 + 1 + 1 + 1 + 1, k, none⟩ = false := fun x => (x.frozen (p := ⟨_, k, none⟩) b10.lt).trans f10
    clear c6 c7 cB c10 f6 f10
    gi_wp2
    refine wpIn_region_mix (C := Grows W) (free_round l) [some true, some true, some true, some true, some true, some true, some true, some true, some true, some true, some false, some true, none, none] hmx (by kernel_rfl) (by kernel_rfl) (grows_refl W) ?_
    simp only [headOf, tailOf]
    repeat (go_big_quiet_step (exact Ret.at hr _))
    refine wpQuiet_nil ?_
    rintro _ ⟨x, rfl⟩
    go_wp2
    rw [calmPost_normal]
    refine ⟨((x.keeps _).trans ((KeepsOthers.setCell _ _ _).from _)).trans ((KeepsOthers.setCell _ _ _).from _), ?_, ⟨⟨?_, by rw [hL.out]; exact hLb⟩, ?_⟩⟩
    · exact (((KeepsAt.refl _ _).below x.below (fun b hb => by simp at hb; have := hBw.size; have := b10.lt; have := bP.lt; omega)).setCell (by simp; omega) _).setCell (by simp; omega) _
    · rw [hM.out, hL.out]
      have F1 : ∀ {a b : Nat}, a ≠ b → a ≠ b := fun h => h
      exact ⟨Arr4.other (Arr4.other (Arr4.below bA x.below (Arr4.lt bA)) (by first | (simp; done) | (simp; omega)) _) (by first | (simp; done) | (simp; omega)) _, Arr4.other (Arr4.other (Arr4.below bB x.below (Arr4.lt bB)) (by first | (simp; done) | (simp; omega)) _) (by first | (simp; done) | (simp; omega)) _, Boxed.set _ (Boxed.away (Boxed.below b6 x.below (Boxed.lt b6)) (by first | (simp; done) | (simp; omega)) _), Boxed.away (Boxed.away (Boxed.below b7 x.below (Boxed.lt b7)) (by first | (simp; done) | (simp; omega)) _) (by first | (simp; done) | (simp; omega)) _,
        Arr4.other (Arr4.other (Arr4.below b8 x.below (Arr4.lt b8)) (by first | (simp; done) | (simp; omega)) _) (by first | (simp; done) | (simp; omega)) _, Arr4.other (Arr4.set (Arr4.below b10 x.below (Arr4.lt b10)) hk _) (by first | (simp; done) | (simp; omega)) _, Boxed.away (Boxed.away (Boxed.below bP x.below (Boxed.lt bP)) (by first | (simp; done) | (simp; omega)) _) (by first | (simp; done) | (simp; omega)) _⟩
    · exact ((hBw.trans (x.below.mono hBw.size)).setCell (p := ⟨_, k, none⟩) (by simp; omega) _).setCell (p := ⟨_, 0, none⟩) (by simp; omega) _
  case done =>
    rintro D ys W hD rfl ⟨⟨⟨bA, bB, b6, b7, b8, b10, bP⟩, hl⟩, hBw⟩ hK
    gi_wp2
    have hmx : Tryz.prog.follows .mixedOrders = true := by kernel_rfl
    have c6 := b6.cell
    have c0 := b10.cell (j := 0) (by omega)
    have c1 := b10.cell (j := 1) (by omega)
    have c2 := b10.cell (j := 2) (by omega)
    have c3 := b10.cell (j := 3) (by omega)
    have d0 := b8.cell (j := 0) (by omega)
    have d1 := b8.cell (j := 1) (by omega)
    have d2 := b8.cell (j := 2) (by omega)
    have d3 := b8.cell (j := 3) (by omega)
    have f0 := b8.frozen 0
    have f1 := b8.frozen 1
    have f2 := b8.frozen 2
    have f3 := b8.frozen 3
    clear hrun hA' hcP hJ0 hB0 hL0 hLn hl bA bB
    have b8' : Arr4 ((((W.setCell ⟨w.heap.size + 1 + 1 + 1 + 1, 0, none⟩ (.int .u64 (madeOf o nx l0 [0, 1, 2, 3] (fun _ => 0) 0))).setCell ⟨w.heap.size + 1 + 1 + 1 + 1, 1, none⟩ (.int .u64 (madeOf o nx l0 [0, 1, 2, 3] (fun _ => 0) 1))).setCell ⟨w.heap.size + 1 + 1 + 1 + 1, 2, none⟩ (.int .u64 (madeOf o nx l0 [0, 1, 2, 3] (fun _ => 0) 2))).setCell ⟨w.heap.size + 1 + 1 + 1 + 1, 3, none⟩ (.int .u64 (madeOf o nx l0 [0, 1, 2, 3] (fun _ => 0) 3))) (w.heap.size + 1 + 1 + 1 + 1) 28 (madeOf o nx l0 [0, 1, 2, 3] (fun _ => 0)) := by
      have h := Arr4.set (Arr4.set (Arr4.set (Arr4.set b8 (k := 0) (by omega) (madeOf o nx l0 [0, 1, 2, 3] (fun _ => 0) 0)) (k := 1) (by omega) (madeOf o nx l0 [0, 1, 2, 3] (fun _ => 0) 1)) (k := 2) (by omega) (madeOf o nx l0 [0, 1, 2, 3] (fun _ => 0) 2)) (k := 3) (by omega) (madeOf o nx l0 [0, 1, 2, 3] (fun _ => 0) 3)
      exact h
    have HB8 := Lib.hid b8'
    clear b8'
    gi_region_o
    all_goals gi_wp2
    all_goals
      have hK' := (((((KeepsOthers.setCell W ⟨w.heap.size + 1 + 1 + 1 + 1, 0, none⟩ (.int .u64 (madeOf o nx l0 [0, 1, 2, 3] (fun _ => 0) 0))).trans (KeepsOthers.setCell _ ⟨w.heap.size + 1 + 1 + 1 + 1, 1, none⟩ (.int .u64 (madeOf o nx l0 [0, 1, 2, 3] (fun _ => 0) 1)))).trans (KeepsOthers.setCell _ ⟨w.heap.size + 1 + 1 + 1 + 1, 2, none⟩ (.int .u64 (madeOf o nx l0 [0, 1, 2, 3] (fun _ => 0) 2)))).trans (KeepsOthers.setCell _ ⟨w.heap.size + 1 + 1 + 1 + 1, 3, none⟩ (.int .u64 (madeOf o nx l0 [0, 1, 2, 3] (fun _ => 0) 3)))).trans (KeepsOthers.drew _)).same D _ hK rfl
      have b8 := HB8.out
      have hBf := ((((hBw.setCell (p := ⟨w.heap.size + 1 + 1 + 1 + 1, 0, none⟩) (by simp; omega) (.int .u64 (madeOf o nx l0 [0, 1, 2, 3] (fun _ => 0) 0))).setCell (p := ⟨w.heap.size + 1 + 1 + 1 + 1, 1, none⟩) (by simp; omega) (.int .u64 (madeOf o nx l0 [0, 1, 2, 3] (fun _ => 0) 1))).setCell (p := ⟨w.heap.size + 1 + 1 + 1 + 1, 2, none⟩) (by simp; omega) (.int .u64 (madeOf o nx l0 [0, 1, 2, 3] (fun _ => 0) 2))).setCell (p := ⟨w.heap.size + 1 + 1 + 1 + 1, 3, none⟩) (by simp; omega) (.int .u64 (madeOf o nx l0 [0, 1, 2, 3] (fun _ => 0) 3))).drew
      refine ⟨by simp, .inl ⟨_, _, rfl, run_takeDeferred hK', ?_⟩⟩
      have b9 := Arr4.kept (Arr4.drew b8) (grownBy_putObj' _ D (.deferred none)) (fun e => by cases e; have := (show _ = _ from Arr4.drew b8).symm.trans hK'; cases this)
      have e0 := b9.cell (j := 0) (by omega)
      have e1 := b9.cell (j := 1) (by omega)
      have e2 := b9.cell (j := 2) (by omega)
      have e3 := b9.cell (j := 3) (by omega)
      exact ⟨_, by simp [results, Tryz.f162, go_sem, e0, e1, e2, e3], rfl, hBf.trans (belowK_b (w := w) (Nat.le_refl _) _ D _ _ (by omega) hK' rfl rfl)⟩
  case stop =>
    rintro D c pre W _ _ h _
    exact h.elim
end Go.Proofs.YtadfkiebblmfkaaGreatDoor
