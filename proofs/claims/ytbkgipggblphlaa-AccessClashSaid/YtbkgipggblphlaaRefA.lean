/- The document's own answer of layer 1: words of ints, their order, their digits, and words of digits. For every word. -/
import Derived.Test.YtbkgipggblphlaaRefM
import Derived.Test.YtbkgipggblphlaaWordE
import Derived.Maps.AppendAt
namespace Go.Proofs.Ytbkgipggblphlaa
open Go Go.RowKit Go.Shelf
attribute [local go_sem] Oper.semAt_some Grows wide_fn

/-! ### Blocks of ints -/
theorem Arr4.mk0' (W : World) (t : TypeId) : Arr4 (W.alloc (.cells #[.int .u64 0, .int .u64 0, .int .u64 0, .int .u64 0] t)) W.heap.size t (fun _ => 0) := World.alloc_heap_new W _
theorem Arr4.later' {W W' : World} {B : Nat} {t : TypeId} {m : Nat → Int} (h : Arr4 W B t m) (hb : Below W.heap.size W W') : Arr4 W' B t m := h.below hb h.lt
theorem Arr4.same4 {W : World} {B : Nat} {t : TypeId} {m m' : Nat → Int} (h : Arr4 W B t m) (h0 : m 0 = m' 0) (h1 : m 1 = m' 1) (h2 : m 2 = m' 2) (h3 : m 3 = m' 3) : Arr4 W B t m' := by
  unfold Arr4 at *
  rw [h, h0, h1, h2, h3]
/-- Block g holds n ints. -/
def IntsAt (W : World) (g n : Nat) (d : Nat → Int) : Prop := ∃ cur, W.heap[g]? = some (.cells cur 3 (0, 0)) ∧ ∀ j, j < n → cur[j]? = some (.int .i64 (d j))
theorem IntsAt.lt {W : World} {g n : Nat} {d : Nat → Int} (h : IntsAt W g n d) : g < W.heap.size := by
  obtain ⟨cur, h1, _⟩ := h
  exact (Array.getElem?_eq_some_iff.1 h1).1
theorem IntsAt.cell {W : World} {g n : Nat} {d : Nat → Int} (h : IntsAt W g n d) {j : Nat} (hj : j < n) : W.cell? ⟨g, j, none⟩ = some (.int .i64 (d j)) := by
  obtain ⟨cur, h1, h2⟩ := h
  simp [World.cell?, h1, h2 j hj]
theorem IntsAt.frozen {W : World} {g n : Nat} {d : Nat → Int} (h : IntsAt W g n d) (j : Nat) : W.frozen? ⟨g, j, none⟩ = false := by
  obtain ⟨cur, h1, _⟩ := h
  simp [World.frozen?, h1]
theorem IntsAt.kept {W W' : World} {row : Option Nat} {g n : Nat} {d : Nat → Int} (h : IntsAt W g n d) (hg : W.grownBy W' row) (hne : some g ≠ row) : IntsAt W' g n d := by
  have hl := h.lt
  obtain ⟨cur, h1, h2⟩ := h
  exact ⟨cur, (hg.block g hl hne).trans h1, h2⟩
theorem IntsAt.below {W W' : World} {g n m : Nat} {d : Nat → Int} (h : IntsAt W g n d) (hb : Below m W W') (hlt : g < m) : IntsAt W' g n d := by
  obtain ⟨cur, h1, h2⟩ := h
  exact ⟨cur, (hb.block g hlt).trans h1, h2⟩
theorem IntsAt.later {W W' : World} {g n : Nat} {d : Nat → Int} (h : IntsAt W g n d) (hb : Below W.heap.size W W') : IntsAt W' g n d := h.below hb h.lt
theorem IntsAt.alloc {W : World} {g n : Nat} {d : Nat → Int} (h : IntsAt W g n d) (o : Obj) : IntsAt (W.alloc o) g n d := h.kept (World.grownBy_alloc W o none) (by simp)
theorem IntsAt.other {W : World} {g n : Nat} {d : Nat → Int} (h : IntsAt W g n d) {p : Addr} (hne : g ≠ p.block) (v : Value) : IntsAt (W.setCell p v) g n d := by
  obtain ⟨cur, h1, h2⟩ := h
  exact ⟨cur, (Below.heap_setCell W p v g hne).trans h1, h2⟩
theorem IntsAt.set {W : World} {g n : Nat} {d : Nat → Int} (h : IntsAt W g n d) {k : Nat} (hk : k < n) (v : Int) : IntsAt (W.setCell ⟨g, k, none⟩ (.int .i64 v)) g n (fun j => if j = k then v else d j) := by
  obtain ⟨cur, h1, h2⟩ := h
  obtain ⟨hlt, he⟩ := Array.getElem?_eq_some_iff.1 h1
  refine ⟨cur.setIfInBounds k (.int .i64 v), ?_, fun j hj => ?_⟩
  · show (W.heap.modify g _)[g]? = _
    rw [Array.getElem?_eq_getElem (by rw [Array.size_modify]; exact hlt), Array.getElem_modify_self, he]
    rfl
  · have hs : k < cur.size := (Array.getElem?_eq_some_iff.1 (h2 k hk)).1
    show (cur.setIfInBounds k (.int .i64 v))[j]? = some (.int .i64 (if j = k then v else d j))
    by_cases e : j = k
    · subst e
      rw [if_pos rfl, Array.getElem?_setIfInBounds_self_of_lt hs]
    · rw [if_neg e, Array.getElem?_setIfInBounds_ne (by omega)]
      exact h2 j hj
theorem IntsAt.congr {W : World} {g n : Nat} {d e : Nat → Int} (h : IntsAt W g n d) (he : ∀ j, j < n → d j = e j) : IntsAt W g n e := by
  obtain ⟨cur, h1, h2⟩ := h
  exact ⟨cur, h1, fun j hj => by rw [← he j hj]; exact h2 j hj⟩
theorem IntsAt.of_row {W : World} {base n g cap : Nat} {d : Nat → Int} {xs : List Value} (h : W.ownsRow base 3 1 (.slice (some ⟨g, 0, none⟩) n cap) n xs) (hx : ∀ j, j < n → xs[j]? = some (.int .i64 (d j))) : base ≤ g ∧ IntsAt W g n d := by
  rcases h.2 with ⟨h1, _⟩ | ⟨g', cap', cur, h1, hb, hg, _, _, _, ht⟩
  · cases h1
  · injection h1 with e1 _ _
    injection e1 with e2
    injection e2 with e3 _ _
    subst e3
    refine ⟨hb, cur, hg, fun j hj => ?_⟩
    have := hx j hj
    rw [← ht, List.getElem?_take] at this
    split at this
    · simpa using this
    · cases this
theorem cell_one (w : World) (x : Value) (t : TypeId) : ∀ j u, [x][j]? = some u → (w.alloc (.cells #[x] t)).cell? ((⟨w.heap.size, 0, none⟩ : Addr).add j) = some u := by
  intro j u hj
  match j, hj with
  | 0, hj =>
    simp at hj
    subst hj
    show (w.alloc (.cells #[x] t)).cell? ⟨w.heap.size, 0, none⟩ = some x
    simp only [World.cell?, show (w.alloc (.cells #[x] t)).heap[w.heap.size]? = _ from World.alloc_heap_new w _]
    rfl
  | j + 1, hj => simp at hj
theorem infoI : (Try.prog.info? 3).map (fun i => (i.zero, i.size, i.bytes)) = some (some (.int .i64 0), 1, 8) := by kernel_rfl
theorem row_below {w w' : World} {base : Nat} {e : TypeId} {size : Nat} {v : Value} {n : Nat} {xs : List Value} (h : w.ownsRow base e size v n xs) (hb : Below w.heap.size w w') : w'.ownsRow base e size v n xs :=
  h.kept (grown_of_below hb none) (by cases hv : v.ownBlock <;> simp)

/-- The same for a list of operations. -/
theorem wp_region_quietR {P : Program} {C : World → Prop} {id : Nat} {Q : Exit → Act → World → Prop} {a : Act} {w : World} {l : List Oper} (hm : P.follows .mixedOrders = true) (hB : Region.lexB .any l.toArray = true)
    (hC : C { w with drawn := w.drawn + 1 }) (h : wpQuiet P l.toArray C (fun a' => ∀ w', C w' → Q .normal a' w') l a) : (Code.region id l.toArray true).wp P Q a w :=
  wp_region_quiet (C := C) hm hB hC (by simpa using h)

/-! ### Digits -/
def dgsV (a n : Nat) : List Value := (List.range n).map fun j => Value.int .i64 (dg a j : Int)
theorem dgsV_succ (a n : Nat) : dgsV a (n + 1) = dgsV a n ++ [.int .i64 (dg a n : Int)] := by simp [dgsV, List.range_succ]
theorem dgsV_length (a n : Nat) : (dgsV a n).length = n := by simp [dgsV]
/-- A word's part behind q divisions by 256. -/
def dvAt (a p : Nat) : Nat → Int
  | 0 => lim a p
  | q + 1 => dvAt a p q / 256
theorem dvAt_eq (a p : Nat) : ∀ q, dvAt a p q = lim a p / 256 ^ q
  | 0 => by simp [dvAt]
  | q + 1 => by
    rw [dvAt, dvAt_eq a p q, Int.pow_succ, Int.ediv_ediv_of_nonneg (Int.le_of_lt (Int.pow_pos (by decide)))]
theorem dvAt_u64 (a p : Nat) : ∀ q, U64 (dvAt a p q)
  | 0 => lim_u64 a p
  | q + 1 => by have := dvAt_u64 a p q; unfold U64 at *; unfold dvAt; omega
theorem dvAt_digit (a p q : Nat) (hp : p < 4) (hq : q < 8) : dvAt a p q % 256 = (dg a (8 * p + q) : Int) := by rw [dvAt_eq, dg_lim a p q hp hq]

end Go.Proofs.Ytbkgipggblphlaa
