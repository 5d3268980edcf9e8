/- Part. -/
import Derived.Laws.StructEq
import Derived.Laws.Cover2
import Derived.Lib.Hide
import Derived.Test.YtnkhmgmganejmaaGreatDoorT06
import Derived.Test.YtnkhmgmganejmaaGreatDoorT04
import Derived.Test.YtnkhmgmganejmaaGreatDoorT05
import Derived.Test.YtnkhmgmganejmaaGreatDoorT03
set_option maxRecDepth 100000
set_option maxHeartbeats 16000000
namespace Go.Proofs.YtnkhmgmganejmaaGreatDoor
section
open Go Go.RowKit
abbrev W4 (a b c d : Int) : Value := .agg #[.int .u64 a, .int .u64 b, .int .u64 c, .int .u64 d]
theorem eq4 (a b c d a' b' c' d' : Int) (w : World) : (Op.equalIn 10000 24 (.agg #[.int .u64 a, .int .u64 b, .int .u64 c, .int .u64 d]) (.agg #[.int .u64 a', .int .u64 b', .int .u64 c', .int .u64 d'])).run Tryz.prog w = .ok (a == a' && b == b' && c == c' && d == d') w := by
 have u3 := Tryz.underlying22
 have a3 := Tryz.isAgg22
 have z3 := Tryz.sizeOf22
 rw [show (10000 : Nat) = 9999 + 1 from rfl, Op.equalIn]
 simp only [Sem.run_bind, run_underlying Tryz.underlying24, Result.andThen_ok]
 simp only [Std.Legacy.Range.forIn_eq_forIn_range', Std.Legacy.Range.size, Nat.sub_zero, Nat.add_sub_cancel, Nat.div_one, List.range'_succ, List.range'_zero, List.forIn_cons, List.forIn_nil]
 go_simp
 by_cases h1 : a = a' <;> by_cases h2 : b = b' <;> by_cases h3 : c = c' <;> by_cases h4 : d = d' <;> simp [h1, h2, h3, h4]
def Has (W : World) (B : Nat) (t : TypeId) (cs : Array Value) : Prop := W.heap[B]? = some (.cells cs t (0, 0))
theorem Has.lt {W : World} {B : Nat} {t : TypeId} {cs : Array Value} (h : Has W B t cs) : B < W.heap.size := (Array.getElem?_eq_some_iff.1 h).1
theorem Has.cell {W : World} {B : Nat} {t : TypeId} {cs : Array Value} (h : Has W B t cs) (j : Nat) (v : Value) (hj : cs[j]? = some v) : W.cell? ⟨B, j, none⟩ = some v := by
 unfold Has at h
 simp [World.cell?, h, hj]
theorem Has.frozen {W : World} {B : Nat} {t : TypeId} {cs : Array Value} (h : Has W B t cs) (j : Nat) : W.frozen? ⟨B, j, none⟩ = false := by
 unfold Has at h
 simp [World.frozen?, h]
theorem Has.new (W : World) (t : TypeId) (cs : Array Value) : Has (W.alloc (.cells cs t)) W.heap.size t cs := World.alloc_heap_new W _
theorem Has.below {W W' : World} {B n : Nat} {t : TypeId} {cs : Array Value} (h : Has W B t cs) (hb : Below n W W') (hn : B < n) : Has W' B t cs := (hb.block B hn).trans h
theorem Has.later {W W' : World} {B : Nat} {t : TypeId} {cs : Array Value} (h : Has W B t cs) (hb : Below W.heap.size W W') : Has W' B t cs := h.below hb h.lt
theorem Has.alloc {W : World} {B : Nat} {t : TypeId} {cs : Array Value} (h : Has W B t cs) (o : Obj) : Has (W.alloc o) B t cs := h.later ((Below.refl _ W).alloc (Nat.le_refl _) o)
theorem Has.other {W : World} {B : Nat} {t : TypeId} {cs : Array Value} (h : Has W B t cs) {p : Addr} (hne : B ≠ p.block) (v : Value) : Has (W.setCell p v) B t cs := (Below.heap_setCell W p v B hne).trans h
theorem Has.set {W : World} {B : Nat} {t : TypeId} {cs : Array Value} (h : Has W B t cs) (k : Nat) (v : Value) : Has (W.setCell ⟨B, k, none⟩ v) B t (cs.setIfInBounds k v) := by
 obtain ⟨hlt, he⟩ := Array.getElem?_eq_some_iff.1 h
 show (W.heap.modify B _)[B]? = _
 rw [Array.getElem?_eq_getElem (by rw [Array.size_modify]; exact hlt), Array.getElem_modify_self, he]
 rfl
theorem wp_region_quietL {P : Program} {C : World → Prop} {id : Nat} {Q : Exit → Act → World → Prop} {a : Act} {w : World} {l : List Oper} (hm : P.follows .mixedOrders = true) (hB : Region.lexB .any l.toArray = true)
  (hC : C { w with drawn := w.drawn + 1 }) (h : wpQuiet P l.toArray C (fun a' => ∀ w', C w' → Q .normal a' w') l a) : (Code.region id l.toArray true).wp P Q a w :=
 wp_region_quiet (C := C) hm hB hC (by simpa using h)
def cellsIf (b : Bool) (x y : Array Value) : Array Value := if b = true then x else y
theorem cellsIf_true (x y : Array Value) : cellsIf true x y = x := rfl
theorem cellsIf_false (x y : Array Value) : cellsIf false x y = y := rfl
theorem Ret.of_eq {P : Program} {f : FuncId} {args args' : Array Value} {v v' : Value} (h : Ret P f args v) (ha : args = args') (hv : v = v') : Ret P f args' v' := by subst ha; subst hv; exact h
theorem newA (w : World) (o : Obj) : Below w.heap.size w (w.alloc o) := (Below.refl w.heap.size w).alloc (Nat.le_refl _) o
theorem sT {α : Type} (l : List α) (i : Nat) (a : α) : l.toArray.setIfInBounds i a = (l.set i a).toArray := List.setIfInBounds_toArray l i a
theorem sS {α : Type} {x : α} {xs : List α} {i : Nat} {a : α} : (x :: xs).set (i + 1) a = x :: xs.set i a := List.set_cons_succ
theorem sZ {α : Type} {x : α} {xs : List α} {a : α} : (x :: xs).set 0 a = a :: xs := List.set_cons_zero
theorem hid {p : Prop} (h : p) : RowKit.Hid p := Lib.hid h
theorem c4 {w : World} {b : Nat} {t : TypeId} {cs : Array Value} (h : Has w b t cs) {x0 x1 x2 x3 : Value} (e0 : cs[0]? = some x0 := by rfl) (e1 : cs[1]? = some x1 := by rfl) (e2 : cs[2]? = some x2 := by rfl) (e3 : cs[3]? = some x3 := by rfl) : w.cell? ⟨b, 0, none⟩ = some x0 ∧ w.cell? ⟨b, 1, none⟩ = some x1 ∧ w.cell? ⟨b, 2, none⟩ = some x2 ∧ w.cell? ⟨b, 3, none⟩ = some x3 := ⟨h.cell 0 _ e0, h.cell 1 _ e1, h.cell 2 _ e2, h.cell 3 _ e3⟩
theorem f4 {w : World} {b : Nat} {t : TypeId} {cs : Array Value} (h : Has w b t cs) : w.frozen? ⟨b, 0, none⟩ = false ∧ w.frozen? ⟨b, 1, none⟩ = false ∧ w.frozen? ⟨b, 2, none⟩ = false ∧ w.frozen? ⟨b, 3, none⟩ = false := ⟨h.frozen 0, h.frozen 1, h.frozen 2, h.frozen 3⟩
theorem e4 {w : World} {b : Nat} {t : TypeId} {cs : Array Value} (h : Has w b t cs) {x0 x1 x2 x3 : Value} (e0 : cs[0]? = some x0 := by rfl) (e1 : cs[1]? = some x1 := by rfl) (e2 : cs[2]? = some x2 := by rfl) (e3 : cs[3]? = some x3 := by rfl) : (∀ x : Ext w, x.w.cell? ⟨b, 0, none⟩ = some x0) ∧ (∀ x : Ext w, x.w.cell? ⟨b, 1, none⟩ = some x1) ∧ (∀ x : Ext w, x.w.cell? ⟨b, 2, none⟩ = some x2) ∧ (∀ x : Ext w, x.w.cell? ⟨b, 3, none⟩ = some x3) := ⟨fun x => (h.later x.below).cell 0 _ e0, fun x => (h.later x.below).cell 1 _ e1, fun x => (h.later x.below).cell 2 _ e2, fun x => (h.later x.below).cell 3 _ e3⟩
theorem q4 {n : Nat} {W w : World} (b : Nat) (h : Below n W w) (hb : n ≤ b) (z : Nat → Int) : Below n W ((((w.setCell ⟨b, 0, none⟩ (.int .u64 (z 0))).setCell ⟨b, 1, none⟩ (.int .u64 (z 1))).setCell ⟨b, 2, none⟩ (.int .u64 (z 2))).setCell ⟨b, 3, none⟩ (.int .u64 (z 3))) := (((h.setCell (p := ⟨b, 0, none⟩) hb _).setCell (p := ⟨b, 1, none⟩) hb _).setCell (p := ⟨b, 2, none⟩) hb _).setCell (p := ⟨b, 3, none⟩) hb _
theorem s4 {w : World} {b : Nat} {t : TypeId} {cs : Array Value} (h : Has w b t cs) (z : Nat → Int) : Has ((((w.setCell ⟨b, 0, none⟩ (.int .u64 (z 0))).setCell ⟨b, 1, none⟩ (.int .u64 (z 1))).setCell ⟨b, 2, none⟩ (.int .u64 (z 2))).setCell ⟨b, 3, none⟩ (.int .u64 (z 3))) b t ((((cs.setIfInBounds 0 (.int .u64 (z 0))).setIfInBounds 1 (.int .u64 (z 1))).setIfInBounds 2 (.int .u64 (z 2))).setIfInBounds 3 (.int .u64 (z 3))) := (((h.set 0 _).set 1 _).set 2 _).set 3 _
abbrev w4 (z : Nat → Int) : Array Value := #[.int .u64 (z 0), .int .u64 (z 1), .int .u64 (z 2), .int .u64 (z 3)]
abbrev z4 : Array Value := #[.int .u64 0, .int .u64 0, .int .u64 0, .int .u64 0]
theorem newBox (w : World) (t : TypeId) (cs : Array Value) : ∃ V, w.alloc (.cells cs t) = V ∧ Has V w.heap.size t cs ∧ Below w.heap.size w V := ⟨_, rfl, Has.new w t cs, (Below.refl w.heap.size w).alloc (Nat.le_refl _) (.cells cs t)⟩
abbrev cw (w : World) (b : Nat) (a : Nat → Int) : Prop := w.cell? ⟨b, 0, none⟩ = some (.int .u64 (a 0)) ∧ w.cell? ⟨b, 1, none⟩ = some (.int .u64 (a 1)) ∧ w.cell? ⟨b, 2, none⟩ = some (.int .u64 (a 2)) ∧ w.cell? ⟨b, 3, none⟩ = some (.int .u64 (a 3))
abbrev cz (w : World) (b : Nat) : Prop := w.cell? ⟨b, 0, none⟩ = some (.int .u64 0) ∧ w.cell? ⟨b, 1, none⟩ = some (.int .u64 0) ∧ w.cell? ⟨b, 2, none⟩ = some (.int .u64 0) ∧ w.cell? ⟨b, 3, none⟩ = some (.int .u64 0)
theorem pwwz (w : World) (t : TypeId) (a b : Nat → Int) : (cw (((w.alloc (.cells (w4 a) t)).alloc (.cells (w4 b) t)).alloc (.cells z4 t)) (w.heap.size) a ∧ cw (((w.alloc (.cells (w4 a) t)).alloc (.cells (w4 b) t)).alloc (.cells z4 t)) (w.heap.size + 1) b ∧ cz (((w.alloc (.cells (w4 a) t)).alloc (.cells (w4 b) t)).alloc (.cells z4 t)) (w.heap.size + 1 + 1)) ∧ ∃ W1, RowKit.Hid ((((w.alloc (.cells (w4 a) t)).alloc (.cells (w4 b) t)).alloc (.cells z4 t)) = W1) ∧ Has W1 (w.heap.size) t (w4 a) ∧ Has W1 (w.heap.size + 1) t (w4 b) ∧ Has W1 (w.heap.size + 1 + 1) t z4 ∧ Below w.heap.size w W1 := by
 have L0 := Has.new w t (w4 a)
 have L0 := L0.alloc (.cells (w4 b) t)
 have L1 := Has.new (w.alloc (.cells (w4 a) t)) t (w4 b)
 simp only [World.size_alloc] at L1
 have L0 := L0.alloc (.cells z4 t)
 have L1 := L1.alloc (.cells z4 t)
 have L2 := Has.new ((w.alloc (.cells (w4 a) t)).alloc (.cells (w4 b) t)) t z4
 simp only [World.size_alloc] at L2
 have k20 := c4 L0
 have k21 := c4 L1
 have k22 := c4 L2
 have Q := (Below.refl w.heap.size w)
 have Q := Q.alloc Q.size (.cells (w4 a) t)
 have Q := Q.alloc Q.size (.cells (w4 b) t)
 have Q := Q.alloc Q.size (.cells z4 t)
 exact ⟨⟨k20, k21, k22⟩, _, hid rfl, L0, L1, L2, Q⟩
theorem pwz (w : World) (t : TypeId) (a : Nat → Int) : (cw ((w.alloc (.cells (w4 a) t)).alloc (.cells z4 t)) (w.heap.size) a ∧ cz ((w.alloc (.cells (w4 a) t)).alloc (.cells z4 t)) (w.heap.size + 1)) ∧ ∃ W1, RowKit.Hid (((w.alloc (.cells (w4 a) t)).alloc (.cells z4 t)) = W1) ∧ Has W1 (w.heap.size) t (w4 a) ∧ Has W1 (w.heap.size + 1) t z4 ∧ Below w.heap.size w W1 := by
 have L0 := Has.new w t (w4 a)
 have L0 := L0.alloc (.cells z4 t)
 have L1 := Has.new (w.alloc (.cells (w4 a) t)) t z4
 simp only [World.size_alloc] at L1
 have k10 := c4 L0
 have k11 := c4 L1
 have Q := (Below.refl w.heap.size w)
 have Q := Q.alloc Q.size (.cells (w4 a) t)
 have Q := Q.alloc Q.size (.cells z4 t)
 exact ⟨⟨k10, k11⟩, _, hid rfl, L0, L1, Q⟩
theorem pww (w : World) (t : TypeId) (a b : Nat → Int) : (cw ((w.alloc (.cells (w4 a) t)).alloc (.cells (w4 b) t)) (w.heap.size) a ∧ cw ((w.alloc (.cells (w4 a) t)).alloc (.cells (w4 b) t)) (w.heap.size + 1) b) ∧ ∃ W1, RowKit.Hid (((w.alloc (.cells (w4 a) t)).alloc (.cells (w4 b) t)) = W1) ∧ Has W1 (w.heap.size) t (w4 a) ∧ Has W1 (w.heap.size + 1) t (w4 b) ∧ Below w.heap.size w W1 := by
 have L0 := Has.new w t (w4 a)
 have L0 := L0.alloc (.cells (w4 b) t)
 have L1 := Has.new (w.alloc (.cells (w4 a) t)) t (w4 b)
 simp only [World.size_alloc] at L1
 have k10 := c4 L0
 have k11 := c4 L1
 have Q := (Below.refl w.heap.size w)
 have Q := Q.alloc Q.size (.cells (w4 a) t)
 have Q := Q.alloc Q.size (.cells (w4 b) t)
 exact ⟨⟨k10, k11⟩, _, hid rfl, L0, L1, Q⟩
theorem pwwzz (w : World) (t : TypeId) (a b : Nat → Int) : (cw ((((w.alloc (.cells (w4 a) t)).alloc (.cells (w4 b) t)).alloc (.cells z4 t)).alloc (.cells z4 t)) (w.heap.size) a ∧ cw ((((w.alloc (.cells (w4 a) t)).alloc (.cells (w4 b) t)).alloc (.cells z4 t)).alloc (.cells z4 t)) (w.heap.size + 1) b ∧ cz ((((w.alloc (.cells (w4 a) t)).alloc (.cells (w4 b) t)).alloc (.cells z4 t)).alloc (.cells z4 t)) (w.heap.size + 1 + 1) ∧ cz ((((w.alloc (.cells (w4 a) t)).alloc (.cells (w4 b) t)).alloc (.cells z4 t)).alloc (.cells z4 t)) (w.heap.size + 1 + 1 + 1)) ∧ ∃ W1, RowKit.Hid (((((w.alloc (.cells (w4 a) t)).alloc (.cells (w4 b) t)).alloc (.cells z4 t)).alloc (.cells z4 t)) = W1) ∧ Has W1 (w.heap.size) t (w4 a) ∧ Has W1 (w.heap.size + 1) t (w4 b) ∧ Has W1 (w.heap.size + 1 + 1) t z4 ∧ Has W1 (w.heap.size + 1 + 1 + 1) t z4 ∧ Below w.heap.size w W1 := by
 have L0 := Has.new w t (w4 a)
 have L0 := L0.alloc (.cells (w4 b) t)
 have L1 := Has.new (w.alloc (.cells (w4 a) t)) t (w4 b)
 simp only [World.size_alloc] at L1
 have L0 := L0.alloc (.cells z4 t)
 have L1 := L1.alloc (.cells z4 t)
 have L2 := Has.new ((w.alloc (.cells (w4 a) t)).alloc (.cells (w4 b) t)) t z4
 simp only [World.size_alloc] at L2
 have L0 := L0.alloc (.cells z4 t)
 have L1 := L1.alloc (.cells z4 t)
 have L2 := L2.alloc (.cells z4 t)
 have L3 := Has.new (((w.alloc (.cells (w4 a) t)).alloc (.cells (w4 b) t)).alloc (.cells z4 t)) t z4
 simp only [World.size_alloc] at L3
 have k30 := c4 L0
 have k31 := c4 L1
 have k32 := c4 L2
 have k33 := c4 L3
 have Q := (Below.refl w.heap.size w)
 have Q := Q.alloc Q.size (.cells (w4 a) t)
 have Q := Q.alloc Q.size (.cells (w4 b) t)
 have Q := Q.alloc Q.size (.cells z4 t)
 have Q := Q.alloc Q.size (.cells z4 t)
 exact ⟨⟨k30, k31, k32, k33⟩, _, hid rfl, L0, L1, L2, L3, Q⟩
theorem pwwwz (w : World) (t : TypeId) (a b c : Nat → Int) : (cw ((((w.alloc (.cells (w4 a) t)).alloc (.cells (w4 b) t)).alloc (.cells (w4 c) t)).alloc (.cells z4 t)) (w.heap.size) a ∧ cw ((((w.alloc (.cells (w4 a) t)).alloc (.cells (w4 b) t)).alloc (.cells (w4 c) t)).alloc (.cells z4 t)) (w.heap.size + 1) b ∧ cw ((((w.alloc (.cells (w4 a) t)).alloc (.cells (w4 b) t)).alloc (.cells (w4 c) t)).alloc (.cells z4 t)) (w.heap.size + 1 + 1) c ∧ cz ((((w.alloc (.cells (w4 a) t)).alloc (.cells (w4 b) t)).alloc (.cells (w4 c) t)).alloc (.cells z4 t)) (w.heap.size + 1 + 1 + 1)) ∧ ∃ W1, RowKit.Hid (((((w.alloc (.cells (w4 a) t)).alloc (.cells (w4 b) t)).alloc (.cells (w4 c) t)).alloc (.cells z4 t)) = W1) ∧ Has W1 (w.heap.size) t (w4 a) ∧ Has W1 (w.heap.size + 1) t (w4 b) ∧ Has W1 (w.heap.size + 1 + 1) t (w4 c) ∧ Has W1 (w.heap.size + 1 + 1 + 1) t z4 ∧ Below w.heap.size w W1 := by
 have L0 := Has.new w t (w4 a)
 have L0 := L0.alloc (.cells (w4 b) t)
 have L1 := Has.new (w.alloc (.cells (w4 a) t)) t (w4 b)
 simp only [World.size_alloc] at L1
 have L0 := L0.alloc (.cells (w4 c) t)
 have L1 := L1.alloc (.cells (w4 c) t)
 have L2 := Has.new ((w.alloc (.cells (w4 a) t)).alloc (.cells (w4 b) t)) t (w4 c)
 simp only [World.size_alloc] at L2
 have L0 := L0.alloc (.cells z4 t)
 have L1 := L1.alloc (.cells z4 t)
 have L2 := L2.alloc (.cells z4 t)
 have L3 := Has.new (((w.alloc (.cells (w4 a) t)).alloc (.cells (w4 b) t)).alloc (.cells (w4 c) t)) t z4
 simp only [World.size_alloc] at L3
 have k30 := c4 L0
 have k31 := c4 L1
 have k32 := c4 L2
 have k33 := c4 L3
 have Q := (Below.refl w.heap.size w)
 have Q := Q.alloc Q.size (.cells (w4 a) t)
 have Q := Q.alloc Q.size (.cells (w4 b) t)
 have Q := Q.alloc Q.size (.cells (w4 c) t)
 have Q := Q.alloc Q.size (.cells z4 t)
 exact ⟨⟨k30, k31, k32, k33⟩, _, hid rfl, L0, L1, L2, L3, Q⟩
end
section
open Go Go.RowKit
attribute [local go_sem] Oper.semAt_some Grows wide_fn
theorem meth_and (v : Value) (W : World) : (method 299 136 v "railhead/bit.of").run Tryz.prog W = .ok (208, v) W := by kernel_rfl
theorem of_and (x y z : Int) (h : bits .and .u64 x y = z) : Ret Tryz.prog 208 #[.agg #[], .int .u64 x, .int .u64 y] (.int .u64 z) := by
 intro w
 subst h
 go_enter Tryz.func208, Tryz.ntmps208
 go_wp2
 go_ret
 exact ⟨rfl, (Below.refl _ _).alloc (Nat.le_refl _) _⟩
theorem meth_or (v : Value) (W : World) : (method 299 137 v "railhead/bit.of").run Tryz.prog W = .ok (209, v) W := by kernel_rfl
theorem of_or (x y z : Int) (h : bits .or .u64 x y = z) : Ret Tryz.prog 209 #[.agg #[], .int .u64 x, .int .u64 y] (.int .u64 z) := by
 intro w
 subst h
 go_enter Tryz.func209, Tryz.ntmps209
 go_wp2
 go_ret
 exact ⟨rfl, (Below.refl _ _).alloc (Nat.le_refl _) _⟩
theorem meth_xor (v : Value) (W : World) : (method 299 138 v "railhead/bit.of").run Tryz.prog W = .ok (210, v) W := by kernel_rfl
theorem of_xor (x y z : Int) (h : bits .xor .u64 x y = z) : Ret Tryz.prog 210 #[.agg #[], .int .u64 x, .int .u64 y] (.int .u64 z) := by
 intro w
 subst h
 go_enter Tryz.func210, Tryz.ntmps210
 go_wp2
 go_ret
 exact ⟨rfl, (Below.refl _ _).alloc (Nat.le_refl _) _⟩
theorem pair_and (a b : Nat) (_ha : W256 a) (_hb : W256 b) : Ret Tryz.prog 150 #[wv a, wv b] (wv (a &&& b)) := by
 intro w
 have O0 := hid (of_and (lim a 0) (lim b 0) (lim (a &&& b) 0) (bits_and_lim a b 0 (by omega)))
 have O1 := hid (of_and (lim a 1) (lim b 1) (lim (a &&& b) 1) (bits_and_lim a b 1 (by omega)))
 have O2 := hid (of_and (lim a 2) (lim b 2) (lim (a &&& b) 2) (bits_and_lim a b 2 (by omega)))
 have O3 := hid (of_and (lim a 3) (lim b 3) (lim (a &&& b) 3) (bits_and_lim a b 3 (by omega)))
 unfold wv
 refine (callsIn_wide (n := 4)).1 ?_
 refine callsIn_of_wp_marks Tryz.func150 rfl trivial ?_ rfl
 simp only [Tryz.ntmps150, List.size_toArray, List.length_cons, List.length_nil, Nat.reduceAdd, Nat.reduceSub, Array.replicate_succ, Array.replicate_zero, List.push_toArray, List.append_toArray, List.nil_append, List.cons_append]
 have LA := Has.new w 24 (w4 (lim a))
 have LA := LA.alloc (.cells (w4 (lim b)) 24)
 have LA := LA.alloc (.cells z4 24)
 have LA := LA.alloc (.cells z4 24)
 have LA := LA.alloc (.cells #[] 136)
 have LB := Has.new (w.alloc (.cells (w4 (lim a)) 24)) 24 (w4 (lim b))
 simp only [World.size_alloc] at LB
 have LB := LB.alloc (.cells z4 24)
 have LB := LB.alloc (.cells z4 24)
 have LB := LB.alloc (.cells #[] 136)
 have LR := Has.new ((w.alloc (.cells (w4 (lim a)) 24)).alloc (.cells (w4 (lim b)) 24)) 24 z4
 simp only [World.size_alloc] at LR
 have LR := LR.alloc (.cells z4 24)
 have LR := LR.alloc (.cells #[] 136)
 have LM := Has.new (((w.alloc (.cells (w4 (lim a)) 24)).alloc (.cells (w4 (lim b)) 24)).alloc (.cells z4 24)) 24 z4
 simp only [World.size_alloc] at LM
 have LM := LM.alloc (.cells #[] 136)
 have LS := Has.new ((((w.alloc (.cells (w4 (lim a)) 24)).alloc (.cells (w4 (lim b)) 24)).alloc (.cells z4 24)).alloc (.cells z4 24)) 136 #[]
 simp only [World.size_alloc] at LS
 have Q := Below.refl w.heap.size w
 have Q := Q.alloc Q.size (.cells (w4 (lim a)) 24)
 have Q := Q.alloc Q.size (.cells (w4 (lim b)) 24)
 have Q := Q.alloc Q.size (.cells z4 24)
 have Q := Q.alloc Q.size (.cells z4 24)
 have Q := Q.alloc Q.size (.cells #[] 136)
 obtain ⟨k0, k1, k2, k3⟩ := c4 LA
 have mt := meth_and
 have hmx : Tryz.prog.follows .mixedOrders = true := by kernel_rfl
 gi_wp2_with fail
 clear k0 k1 k2 k3
 obtain ⟨W0, hW0⟩ : ∃ W0, (((((w.alloc (.cells (w4 (lim a)) 24)).alloc (.cells (w4 (lim b)) 24)).alloc (.cells z4 24)).alloc (.cells z4 24)).alloc (.cells #[] 136)) = W0 := ⟨_, rfl⟩
 rw [hW0] at LB LR LM LS Q ⊢
 clear hW0 LA _ha _hb
 have i0 : ∀ w, (Instr.index 24 (.agg #[.int .u64 (lim a 0), .int .u64 (lim a 1), .int .u64 (lim a 2), .int .u64 (lim a 3)]) (.int .i64 0)).run Tryz.prog w = .ok (.int .u64 (lim a 0)) w := fun _ => by kernel_rfl
 have i1 : ∀ w, (Instr.index 24 (.agg #[.int .u64 (lim a 0), .int .u64 (lim a 1), .int .u64 (lim a 2), .int .u64 (lim a 3)]) (.int .i64 1)).run Tryz.prog w = .ok (.int .u64 (lim a 1)) w := fun _ => by kernel_rfl
 have i2 : ∀ w, (Instr.index 24 (.agg #[.int .u64 (lim a 0), .int .u64 (lim a 1), .int .u64 (lim a 2), .int .u64 (lim a 3)]) (.int .i64 2)).run Tryz.prog w = .ok (.int .u64 (lim a 2)) w := fun _ => by kernel_rfl
 have i3 : ∀ w, (Instr.index 24 (.agg #[.int .u64 (lim a 0), .int .u64 (lim a 1), .int .u64 (lim a 2), .int .u64 (lim a 3)]) (.int .i64 3)).run Tryz.prog w = .ok (.int .u64 (lim a 3)) w := fun _ => by kernel_rfl
 refine wpIn_loop_rounds 5 ?_
 rw [roundsIn_succ]
 gi_wp2_with fail
 obtain ⟨kB0, kB1, kB2, kB3⟩ := e4 LB
 obtain ⟨kM0, kM1, kM2, kM3⟩ := e4 LM
 refine wpIn_region_mix (C := Grows W0) free_wide [some true, some true, some true, some true, some true, some true, some true, some true, some true, none] hmx (by kernel_rfl) (by kernel_rfl) (grows_refl W0) ?_
 simp only [headOf, tailOf]
 repeat (go_big_quiet_step (first | (with_reducible exact Ret.at O0.out _)))
 refine wpQuiet_nil ?_
 rintro _ ⟨x0, rfl⟩
 clear kB0 kB1 kB2 kB3 kM0 kM1 kM2 kM3
 have LB := LB.later x0.below
 have LR := LR.later x0.below
 have LM := LM.later x0.below
 have LS := LS.later x0.below
 have Q := Q.trans (x0.below.mono Q.size)
 have kc := LM.cell 0 _ rfl
 have kz := LM.frozen 0
 go_wp2
 rw [calmPost_normal]
 clear kc kz
 have LB := LB.other (p := ⟨w.heap.size + 1 + 1 + 1, 0, none⟩) (by simp) (.int .u64 (lim (a &&& b) 0))
 have LR := LR.other (p := ⟨w.heap.size + 1 + 1 + 1, 0, none⟩) (by simp) (.int .u64 (lim (a &&& b) 0))
 have LS := LS.other (p := ⟨w.heap.size + 1 + 1 + 1, 0, none⟩) (by simp) (.int .u64 (lim (a &&& b) 0))
 have LM := LM.set 0 (.int .u64 (lim (a &&& b) 0))
 have Q := Q.setCell (p := ⟨w.heap.size + 1 + 1 + 1, 0, none⟩) (show w.heap.size ≤ _ by simp; omega) (.int .u64 (lim (a &&& b) 0))
 obtain ⟨W1, hW⟩ : ∃ W1, x0.w.setCell ⟨w.heap.size + 1 + 1 + 1, 0, none⟩ (.int .u64 (lim (a &&& b) 0)) = W1 := ⟨_, rfl⟩
 rw [hW] at LB LR LM LS Q ⊢
 clear hW
 gi_wp2_with fail
 replace LM : Has W1 (w.heap.size + 1 + 1 + 1) 24 #[.int .u64 (lim (a &&& b) 0), .int .u64 0, .int .u64 0, .int .u64 0] := LM
 rw [roundsIn_succ]
 gi_wp2_with fail
 obtain ⟨kB0, kB1, kB2, kB3⟩ := e4 LB
 obtain ⟨kM0, kM1, kM2, kM3⟩ := e4 LM
 refine wpIn_region_mix (C := Grows W1) free_wide [some true, some true, some true, some true, some true, some true, some true, some true, some true, none] hmx (by kernel_rfl) (by kernel_rfl) (grows_refl W1) ?_
 simp only [headOf, tailOf]
 repeat (go_big_quiet_step (first | (with_reducible exact Ret.at O1.out _)))
 refine wpQuiet_nil ?_
 rintro _ ⟨x1, rfl⟩
 clear kB0 kB1 kB2 kB3 kM0 kM1 kM2 kM3
 have LB := LB.later x1.below
 have LR := LR.later x1.below
 have LM := LM.later x1.below
 have LS := LS.later x1.below
 have Q := Q.trans (x1.below.mono Q.size)
 have kc := LM.cell 1 _ rfl
 have kz := LM.frozen 1
 go_wp2
 rw [calmPost_normal]
 clear kc kz
 have LB := LB.other (p := ⟨w.heap.size + 1 + 1 + 1, 1, none⟩) (by simp) (.int .u64 (lim (a &&& b) 1))
 have LR := LR.other (p := ⟨w.heap.size + 1 + 1 + 1, 1, none⟩) (by simp) (.int .u64 (lim (a &&& b) 1))
 have LS := LS.other (p := ⟨w.heap.size + 1 + 1 + 1, 1, none⟩) (by simp) (.int .u64 (lim (a &&& b) 1))
 have LM := LM.set 1 (.int .u64 (lim (a &&& b) 1))
 have Q := Q.setCell (p := ⟨w.heap.size + 1 + 1 + 1, 1, none⟩) (show w.heap.size ≤ _ by simp; omega) (.int .u64 (lim (a &&& b) 1))
 obtain ⟨W2, hW⟩ : ∃ W2, x1.w.setCell ⟨w.heap.size + 1 + 1 + 1, 1, none⟩ (.int .u64 (lim (a &&& b) 1)) = W2 := ⟨_, rfl⟩
 rw [hW] at LB LR LM LS Q ⊢
 clear hW
 gi_wp2_with fail
 replace LM : Has W2 (w.heap.size + 1 + 1 + 1) 24 #[.int .u64 (lim (a &&& b) 0), .int .u64 (lim (a &&& b) 1), .int .u64 0, .int .u64 0] := LM
 rw [roundsIn_succ]
 gi_wp2_with fail
 obtain ⟨kB0, kB1, kB2, kB3⟩ := e4 LB
 obtain ⟨kM0, kM1, kM2, kM3⟩ := e4 LM
 refine wpIn_region_mix (C := Grows W2) free_wide [some true, some true, some true, some true, some true, some true, some true, some true, some true, none] hmx (by kernel_rfl) (by kernel_rfl) (grows_refl W2) ?_
 simp only [headOf, tailOf]
 repeat (go_big_quiet_step (first | (with_reducible exact Ret.at O2.out _)))
 refine wpQuiet_nil ?_
 rintro _ ⟨x2, rfl⟩
 clear kB0 kB1 kB2 kB3 kM0 kM1 kM2 kM3
 have LB := LB.later x2.below
 have LR := LR.later x2.below
 have LM := LM.later x2.below
 have LS := LS.later x2.below
 have Q := Q.trans (x2.below.mono Q.size)
 have kc := LM.cell 2 _ rfl
 have kz := LM.frozen 2
 go_wp2
 rw [calmPost_normal]
 clear kc kz
 have LB := LB.other (p := ⟨w.heap.size + 1 + 1 + 1, 2, none⟩) (by simp) (.int .u64 (lim (a &&& b) 2))
 have LR := LR.other (p := ⟨w.heap.size + 1 + 1 + 1, 2, none⟩) (by simp) (.int .u64 (lim (a &&& b) 2))
 have LS := LS.other (p := ⟨w.heap.size + 1 + 1 + 1, 2, none⟩) (by simp) (.int .u64 (lim (a &&& b) 2))
 have LM := LM.set 2 (.int .u64 (lim (a &&& b) 2))
 have Q := Q.setCell (p := ⟨w.heap.size + 1 + 1 + 1, 2, none⟩) (show w.heap.size ≤ _ by simp; omega) (.int .u64 (lim (a &&& b) 2))
 obtain ⟨W3, hW⟩ : ∃ W3, x2.w.setCell ⟨w.heap.size + 1 + 1 + 1, 2, none⟩ (.int .u64 (lim (a &&& b) 2)) = W3 := ⟨_, rfl⟩
 rw [hW] at LB LR LM LS Q ⊢
 clear hW
 gi_wp2_with fail
 replace LM : Has W3 (w.heap.size + 1 + 1 + 1) 24 #[.int .u64 (lim (a &&& b) 0), .int .u64 (lim (a &&& b) 1), .int .u64 (lim (a &&& b) 2), .int .u64 0] := LM
 rw [roundsIn_succ]
 gi_wp2_with fail
 obtain ⟨kB0, kB1, kB2, kB3⟩ := e4 LB
 obtain ⟨kM0, kM1, kM2, kM3⟩ := e4 LM
 refine wpIn_region_mix (C := Grows W3) free_wide [some true, some true, some true, some true, some true, some true, some true, some true, some true, none] hmx (by kernel_rfl) (by kernel_rfl) (grows_refl W3) ?_
 simp only [headOf, tailOf]
 repeat (go_big_quiet_step (first | (with_reducible exact Ret.at O3.out _)))
 refine wpQuiet_nil ?_
 rintro _ ⟨x3, rfl⟩
 clear kB0 kB1 kB2 kB3 kM0 kM1 kM2 kM3
 have LB := LB.later x3.below
 have LR := LR.later x3.below
 have LM := LM.later x3.below
 have LS := LS.later x3.below
 have Q := Q.trans (x3.below.mono Q.size)
 have kc := LM.cell 3 _ rfl
 have kz := LM.frozen 3
 go_wp2
 rw [calmPost_normal]
 clear kc kz
 have LB := LB.other (p := ⟨w.heap.size + 1 + 1 + 1, 3, none⟩) (by simp) (.int .u64 (lim (a &&& b) 3))
 have LR := LR.other (p := ⟨w.heap.size + 1 + 1 + 1, 3, none⟩) (by simp) (.int .u64 (lim (a &&& b) 3))
 have LS := LS.other (p := ⟨w.heap.size + 1 + 1 + 1, 3, none⟩) (by simp) (.int .u64 (lim (a &&& b) 3))
 have LM := LM.set 3 (.int .u64 (lim (a &&& b) 3))
 have Q := Q.setCell (p := ⟨w.heap.size + 1 + 1 + 1, 3, none⟩) (show w.heap.size ≤ _ by simp; omega) (.int .u64 (lim (a &&& b) 3))
 obtain ⟨W4, hW⟩ : ∃ W4, x3.w.setCell ⟨w.heap.size + 1 + 1 + 1, 3, none⟩ (.int .u64 (lim (a &&& b) 3)) = W4 := ⟨_, rfl⟩
 rw [hW] at LB LR LM LS Q ⊢
 clear hW
 gi_wp2_with fail
 replace LM : Has W4 (w.heap.size + 1 + 1 + 1) 24 #[.int .u64 (lim (a &&& b) 0), .int .u64 (lim (a &&& b) 1), .int .u64 (lim (a &&& b) 2), .int .u64 (lim (a &&& b) 3)] := LM
 rw [roundsIn_succ]
 have k0 := LM.cell 0 _ rfl
 have r0 := LR.cell 0 _ rfl
 have z0 := LR.frozen 0
 have k1 := LM.cell 1 _ rfl
 have r1 := LR.cell 1 _ rfl
 have z1 := LR.frozen 1
 have k2 := LM.cell 2 _ rfl
 have r2 := LR.cell 2 _ rfl
 have z2 := LR.frozen 2
 have k3 := LM.cell 3 _ rfl
 have r3 := LR.cell 3 _ rfl
 have z3 := LR.frozen 3
 gi_wp2_with fail
 clear k0 r0 z0 k1 r1 z1 k2 r2 z2 k3 r3 z3
 have LR := (s4 LR (lim (a &&& b)))
 obtain ⟨e0, e1, e2, e3⟩ := c4 LR
 have Q := (q4 (w.heap.size + 1 + 1) Q (by omega) (lim (a &&& b)))
 exact ⟨_, by simp [results, Tryz.f150, go_sem, e0, e1, e2, e3], rfl, Q⟩
theorem pair_or (a b : Nat) (_ha : W256 a) (_hb : W256 b) : Ret Tryz.prog 151 #[wv a, wv b] (wv (a ||| b)) := by
 intro w
 have O0 := hid (of_or (lim a 0) (lim b 0) (lim (a ||| b) 0) (bits_or_lim a b 0 (by omega)))
 have O1 := hid (of_or (lim a 1) (lim b 1) (lim (a ||| b) 1) (bits_or_lim a b 1 (by omega)))
 have O2 := hid (of_or (lim a 2) (lim b 2) (lim (a ||| b) 2) (bits_or_lim a b 2 (by omega)))
 have O3 := hid (of_or (lim a 3) (lim b 3) (lim (a ||| b) 3) (bits_or_lim a b 3 (by omega)))
 unfold wv
 refine (callsIn_wide (n := 4)).1 ?_
 refine callsIn_of_wp_marks Tryz.func151 rfl trivial ?_ rfl
 simp only [Tryz.ntmps151, List.size_toArray, List.length_cons, List.length_nil, Nat.reduceAdd, Nat.reduceSub, Array.replicate_succ, Array.replicate_zero, List.push_toArray, List.append_toArray, List.nil_append, List.cons_append]
 have LA := Has.new w 24 (w4 (lim a))
 have LA := LA.alloc (.cells (w4 (lim b)) 24)
 have LA := LA.alloc (.cells z4 24)
 have LA := LA.alloc (.cells z4 24)
 have LA := LA.alloc (.cells #[] 137)
 have LB := Has.new (w.alloc (.cells (w4 (lim a)) 24)) 24 (w4 (lim b))
 simp only [World.size_alloc] at LB
 have LB := LB.alloc (.cells z4 24)
 have LB := LB.alloc (.cells z4 24)
 have LB := LB.alloc (.cells #[] 137)
 have LR := Has.new ((w.alloc (.cells (w4 (lim a)) 24)).alloc (.cells (w4 (lim b)) 24)) 24 z4
 simp only [World.size_alloc] at LR
 have LR := LR.alloc (.cells z4 24)
 have LR := LR.alloc (.cells #[] 137)
 have LM := Has.new (((w.alloc (.cells (w4 (lim a)) 24)).alloc (.cells (w4 (lim b)) 24)).alloc (.cells z4 24)) 24 z4
 simp only [World.size_alloc] at LM
 have LM := LM.alloc (.cells #[] 137)
 have LS := Has.new ((((w.alloc (.cells (w4 (lim a)) 24)).alloc (.cells (w4 (lim b)) 24)).alloc (.cells z4 24)).alloc (.cells z4 24)) 137 #[]
 simp only [World.size_alloc] at LS
 have Q := Below.refl w.heap.size w
 have Q := Q.alloc Q.size (.cells (w4 (lim a)) 24)
 have Q := Q.alloc Q.size (.cells (w4 (lim b)) 24)
 have Q := Q.alloc Q.size (.cells z4 24)
 have Q := Q.alloc Q.size (.cells z4 24)
 have Q := Q.alloc Q.size (.cells #[] 137)
 obtain ⟨k0, k1, k2, k3⟩ := c4 LA
 have mt := meth_or
 have hmx : Tryz.prog.follows .mixedOrders = true := by kernel_rfl
 gi_wp2_with fail
 clear k0 k1 k2 k3
 obtain ⟨W0, hW0⟩ : ∃ W0, (((((w.alloc (.cells (w4 (lim a)) 24)).alloc (.cells (w4 (lim b)) 24)).alloc (.cells z4 24)).alloc (.cells z4 24)).alloc (.cells #[] 137)) = W0 := ⟨_, rfl⟩
 rw [hW0] at LB LR LM LS Q ⊢
 clear hW0 LA _ha _hb
 have i0 : ∀ w, (Instr.index 24 (.agg #[.int .u64 (lim a 0), .int .u64 (lim a 1), .int .u64 (lim a 2), .int .u64 (lim a 3)]) (.int .i64 0)).run Tryz.prog w = .ok (.int .u64 (lim a 0)) w := fun _ => by kernel_rfl
 have i1 : ∀ w, (Instr.index 24 (.agg #[.int .u64 (lim a 0), .int .u64 (lim a 1), .int .u64 (lim a 2), .int .u64 (lim a 3)]) (.int .i64 1)).run Tryz.prog w = .ok (.int .u64 (lim a 1)) w := fun _ => by kernel_rfl
 have i2 : ∀ w, (Instr.index 24 (.agg #[.int .u64 (lim a 0), .int .u64 (lim a 1), .int .u64 (lim a 2), .int .u64 (lim a 3)]) (.int .i64 2)).run Tryz.prog w = .ok (.int .u64 (lim a 2)) w := fun _ => by kernel_rfl
 have i3 : ∀ w, (Instr.index 24 (.agg #[.int .u64 (lim a 0), .int .u64 (lim a 1), .int .u64 (lim a 2), .int .u64 (lim a 3)]) (.int .i64 3)).run Tryz.prog w = .ok (.int .u64 (lim a 3)) w := fun _ => by kernel_rfl
 refine wpIn_loop_rounds 5 ?_
 rw [roundsIn_succ]
 gi_wp2_with fail
 obtain ⟨kB0, kB1, kB2, kB3⟩ := e4 LB
 obtain ⟨kM0, kM1, kM2, kM3⟩ := e4 LM
 refine wpIn_region_mix (C := Grows W0) free_wide [some true, some true, some true, some true, some true, some true, some true, some true, some true, none] hmx (by kernel_rfl) (by kernel_rfl) (grows_refl W0) ?_
 simp only [headOf, tailOf]
 repeat (go_big_quiet_step (first | (with_reducible exact Ret.at O0.out _)))
 refine wpQuiet_nil ?_
 rintro _ ⟨x0, rfl⟩
 clear kB0 kB1 kB2 kB3 kM0 kM1 kM2 kM3
 have LB := LB.later x0.below
 have LR := LR.later x0.below
 have LM := LM.later x0.below
 have LS := LS.later x0.below
 have Q := Q.trans (x0.below.mono Q.size)
 have kc := LM.cell 0 _ rfl
 have kz := LM.frozen 0
 go_wp2
 rw [calmPost_normal]
 clear kc kz
 have LB := LB.other (p := ⟨w.heap.size + 1 + 1 + 1, 0, none⟩) (by simp) (.int .u64 (lim (a ||| b) 0))
 have LR := LR.other (p := ⟨w.heap.size + 1 + 1 + 1, 0, none⟩) (by simp) (.int .u64 (lim (a ||| b) 0))
 have LS := LS.other (p := ⟨w.heap.size + 1 + 1 + 1, 0, none⟩) (by simp) (.int .u64 (lim (a ||| b) 0))
 have LM := LM.set 0 (.int .u64 (lim (a ||| b) 0))
 have Q := Q.setCell (p := ⟨w.heap.size + 1 + 1 + 1, 0, none⟩) (show w.heap.size ≤ _ by simp; omega) (.int .u64 (lim (a ||| b) 0))
 obtain ⟨W1, hW⟩ : ∃ W1, x0.w.setCell ⟨w.heap.size + 1 + 1 + 1, 0, none⟩ (.int .u64 (lim (a ||| b) 0)) = W1 := ⟨_, rfl⟩
 rw [hW] at LB LR LM LS Q ⊢
 clear hW
 gi_wp2_with fail
 replace LM : Has W1 (w.heap.size + 1 + 1 + 1) 24 #[.int .u64 (lim (a ||| b) 0), .int .u64 0, .int .u64 0, .int .u64 0] := LM
 rw [roundsIn_succ]
 gi_wp2_with fail
 obtain ⟨kB0, kB1, kB2, kB3⟩ := e4 LB
 obtain ⟨kM0, kM1, kM2, kM3⟩ := e4 LM
 refine wpIn_region_mix (C := Grows W1) free_wide [some true, some true, some true, some true, some true, some true, some true, some true, some true, none] hmx (by kernel_rfl) (by kernel_rfl) (grows_refl W1) ?_
 simp only [headOf, tailOf]
 repeat (go_big_quiet_step (first | (with_reducible exact Ret.at O1.out _)))
 refine wpQuiet_nil ?_
 rintro _ ⟨x1, rfl⟩
 clear kB0 kB1 kB2 kB3 kM0 kM1 kM2 kM3
 have LB := LB.later x1.below
 have LR := LR.later x1.below
 have LM := LM.later x1.below
 have LS := LS.later x1.below
 have Q := Q.trans (x1.below.mono Q.size)
 have kc := LM.cell 1 _ rfl
 have kz := LM.frozen 1
 go_wp2
 rw [calmPost_normal]
 clear kc kz
 have LB := LB.other (p := ⟨w.heap.size + 1 + 1 + 1, 1, none⟩) (by simp) (.int .u64 (lim (a ||| b) 1))
 have LR := LR.other (p := ⟨w.heap.size + 1 + 1 + 1, 1, none⟩) (by simp) (.int .u64 (lim (a ||| b) 1))
 have LS := LS.other (p := ⟨w.heap.size + 1 + 1 + 1, 1, none⟩) (by simp) (.int .u64 (lim (a ||| b) 1))
 have LM := LM.set 1 (.int .u64 (lim (a ||| b) 1))
 have Q := Q.setCell (p := ⟨w.heap.size + 1 + 1 + 1, 1, none⟩) (show w.heap.size ≤ _ by simp; omega) (.int .u64 (lim (a ||| b) 1))
 obtain ⟨W2, hW⟩ : ∃ W2, x1.w.setCell ⟨w.heap.size + 1 + 1 + 1, 1, none⟩ (.int .u64 (lim (a ||| b) 1)) = W2 := ⟨_, rfl⟩
 rw [hW] at LB LR LM LS Q ⊢
 clear hW
 gi_wp2_with fail
 replace LM : Has W2 (w.heap.size + 1 + 1 + 1) 24 #[.int .u64 (lim (a ||| b) 0), .int .u64 (lim (a ||| b) 1), .int .u64 0, .int .u64 0] := LM
 rw [roundsIn_succ]
 gi_wp2_with fail
 obtain ⟨kB0, kB1, kB2, kB3⟩ := e4 LB
 obtain ⟨kM0, kM1, kM2, kM3⟩ := e4 LM
 refine wpIn_region_mix (C := Grows W2) free_wide [some true, some true, some true, some true, some true, some true, some true, some true, some true, none] hmx (by kernel_rfl) (by kernel_rfl) (grows_refl W2) ?_
 simp only [headOf, tailOf]
 repeat (go_big_quiet_step (first | (with_reducible exact Ret.at O2.out _)))
 refine wpQuiet_nil ?_
 rintro _ ⟨x2, rfl⟩
 clear kB0 kB1 kB2 kB3 kM0 kM1 kM2 kM3
 have LB := LB.later x2.below
 have LR := LR.later x2.below
 have LM := LM.later x2.below
 have LS := LS.later x2.below
 have Q := Q.trans (x2.below.mono Q.size)
 have kc := LM.cell 2 _ rfl
 have kz := LM.frozen 2
 go_wp2
 rw [calmPost_normal]
 clear kc kz
 have LB := LB.other (p := ⟨w.heap.size + 1 + 1 + 1, 2, none⟩) (by simp) (.int .u64 (lim (a ||| b) 2))
 have LR := LR.other (p := ⟨w.heap.size + 1 + 1 + 1, 2, none⟩) (by simp) (.int .u64 (lim (a ||| b) 2))
 have LS := LS.other (p := ⟨w.heap.size + 1 + 1 + 1, 2, none⟩) (by simp) (.int .u64 (lim (a ||| b) 2))
 have LM := LM.set 2 (.int .u64 (lim (a ||| b) 2))
 have Q := Q.setCell (p := ⟨w.heap.size + 1 + 1 + 1, 2, none⟩) (show w.heap.size ≤ _ by simp; omega) (.int .u64 (lim (a ||| b) 2))
 obtain ⟨W3, hW⟩ : ∃ W3, x2.w.setCell ⟨w.heap.size + 1 + 1 + 1, 2, none⟩ (.int .u64 (lim (a ||| b) 2)) = W3 := ⟨_, rfl⟩
 rw [hW] at LB LR LM LS Q ⊢
 clear hW
 gi_wp2_with fail
 replace LM : Has W3 (w.heap.size + 1 + 1 + 1) 24 #[.int .u64 (lim (a ||| b) 0), .int .u64 (lim (a ||| b) 1), .int .u64 (lim (a ||| b) 2), .int .u64 0] := LM
 rw [roundsIn_succ]
 gi_wp2_with fail
 obtain ⟨kB0, kB1, kB2, kB3⟩ := e4 LB
 obtain ⟨kM0, kM1, kM2, kM3⟩ := e4 LM
 refine wpIn_region_mix (C := Grows W3) free_wide [some true, some true, some true, some true, some true, some true, some true, some true, some true, none] hmx (by kernel_rfl) (by kernel_rfl) (grows_refl W3) ?_
 simp only [headOf, tailOf]
 repeat (go_big_quiet_step (first | (with_reducible exact Ret.at O3.out _)))
 refine wpQuiet_nil ?_
 rintro _ ⟨x3, rfl⟩
 clear kB0 kB1 kB2 kB3 kM0 kM1 kM2 kM3
 have LB := LB.later x3.below
 have LR := LR.later x3.below
 have LM := LM.later x3.below
 have LS := LS.later x3.below
 have Q := Q.trans (x3.below.mono Q.size)
 have kc := LM.cell 3 _ rfl
 have kz := LM.frozen 3
 go_wp2
 rw [calmPost_normal]
 clear kc kz
 have LB := LB.other (p := ⟨w.heap.size + 1 + 1 + 1, 3, none⟩) (by simp) (.int .u64 (lim (a ||| b) 3))
 have LR := LR.other (p := ⟨w.heap.size + 1 + 1 + 1, 3, none⟩) (by simp) (.int .u64 (lim (a ||| b) 3))
 have LS := LS.other (p := ⟨w.heap.size + 1 + 1 + 1, 3, none⟩) (by simp) (.int .u64 (lim (a ||| b) 3))
 have LM := LM.set 3 (.int .u64 (lim (a ||| b) 3))
 have Q := Q.setCell (p := ⟨w.heap.size + 1 + 1 + 1, 3, none⟩) (show w.heap.size ≤ _ by simp; omega) (.int .u64 (lim (a ||| b) 3))
 obtain ⟨W4, hW⟩ : ∃ W4, x3.w.setCell ⟨w.heap.size + 1 + 1 + 1, 3, none⟩ (.int .u64 (lim (a ||| b) 3)) = W4 := ⟨_, rfl⟩
 rw [hW] at LB LR LM LS Q ⊢
 clear hW
 gi_wp2_with fail
 replace LM : Has W4 (w.heap.size + 1 + 1 + 1) 24 #[.int .u64 (lim (a ||| b) 0), .int .u64 (lim (a ||| b) 1), .int .u64 (lim (a ||| b) 2), .int .u64 (lim (a ||| b) 3)] := LM
 rw [roundsIn_succ]
 have k0 := LM.cell 0 _ rfl
 have r0 := LR.cell 0 _ rfl
 have z0 := LR.frozen 0
 have k1 := LM.cell 1 _ rfl
 have r1 := LR.cell 1 _ rfl
 have z1 := LR.frozen 1
 have k2 := LM.cell 2 _ rfl
 have r2 := LR.cell 2 _ rfl
 have z2 := LR.frozen 2
 have k3 := LM.cell 3 _ rfl
 have r3 := LR.cell 3 _ rfl
 have z3 := LR.frozen 3
 gi_wp2_with fail
 clear k0 r0 z0 k1 r1 z1 k2 r2 z2 k3 r3 z3
 have LR := (s4 LR (lim (a ||| b)))
 obtain ⟨e0, e1, e2, e3⟩ := c4 LR
 have Q := (q4 (w.heap.size + 1 + 1) Q (by omega) (lim (a ||| b)))
 exact ⟨_, by simp [results, Tryz.f151, go_sem, e0, e1, e2, e3], rfl, Q⟩
theorem pair_xor (a b : Nat) (_ha : W256 a) (_hb : W256 b) : Ret Tryz.prog 152 #[wv a, wv b] (wv (a ^^^ b)) := by
 intro w
 have O0 := hid (of_xor (lim a 0) (lim b 0) (lim (a ^^^ b) 0) (bits_xor_lim a b 0 (by omega)))
 have O1 := hid (of_xor (lim a 1) (lim b 1) (lim (a ^^^ b) 1) (bits_xor_lim a b 1 (by omega)))
 have O2 := hid (of_xor (lim a 2) (lim b 2) (lim (a ^^^ b) 2) (bits_xor_lim a b 2 (by omega)))
 have O3 := hid (of_xor (lim a 3) (lim b 3) (lim (a ^^^ b) 3) (bits_xor_lim a b 3 (by omega)))
 unfold wv
 refine (callsIn_wide (n := 4)).1 ?_
 refine callsIn_of_wp_marks Tryz.func152 rfl trivial ?_ rfl
 simp only [Tryz.ntmps152, List.size_toArray, List.length_cons, List.length_nil, Nat.reduceAdd, Nat.reduceSub, Array.replicate_succ, Array.replicate_zero, List.push_toArray, List.append_toArray, List.nil_append, List.cons_append]
 have LA := Has.new w 24 (w4 (lim a))
 have LA := LA.alloc (.cells (w4 (lim b)) 24)
 have LA := LA.alloc (.cells z4 24)
 have LA := LA.alloc (.cells z4 24)
 have LA := LA.alloc (.cells #[] 138)
 have LB := Has.new (w.alloc (.cells (w4 (lim a)) 24)) 24 (w4 (lim b))
 simp only [World.size_alloc] at LB
 have LB := LB.alloc (.cells z4 24)
 have LB := LB.alloc (.cells z4 24)
 have LB := LB.alloc (.cells #[] 138)
 have LR := Has.new ((w.alloc (.cells (w4 (lim a)) 24)).alloc (.cells (w4 (lim b)) 24)) 24 z4
 simp only [World.size_alloc] at LR
 have LR := LR.alloc (.cells z4 24)
 have LR := LR.alloc (.cells #[] 138)
 have LM := Has.new (((w.alloc (.cells (w4 (lim a)) 24)).alloc (.cells (w4 (lim b)) 24)).alloc (.cells z4 24)) 24 z4
 simp only [World.size_alloc] at LM
 have LM := LM.alloc (.cells #[] 138)
 have LS := Has.new ((((w.alloc (.cells (w4 (lim a)) 24)).alloc (.cells (w4 (lim b)) 24)).alloc (.cells z4 24)).alloc (.cells z4 24)) 138 #[]
 simp only [World.size_alloc] at LS
 have Q := Below.refl w.heap.size w
 have Q := Q.alloc Q.size (.cells (w4 (lim a)) 24)
 have Q := Q.alloc Q.size (.cells (w4 (lim b)) 24)
 have Q := Q.alloc Q.size (.cells z4 24)
 have Q := Q.alloc Q.size (.cells z4 24)
 have Q := Q.alloc Q.size (.cells #[] 138)
 obtain ⟨k0, k1, k2, k3⟩ := c4 LA
 have mt := meth_xor
 have hmx : Tryz.prog.follows .mixedOrders = true := by kernel_rfl
 gi_wp2_with fail
 clear k0 k1 k2 k3
 obtain ⟨W0, hW0⟩ : ∃ W0, (((((w.alloc (.cells (w4 (lim a)) 24)).alloc (.cells (w4 (lim b)) 24)).alloc (.cells z4 24)).alloc (.cells z4 24)).alloc (.cells #[] 138)) = W0 := ⟨_, rfl⟩
 rw [hW0] at LB LR LM LS Q ⊢
 clear hW0 LA _ha _hb
 have i0 : ∀ w, (Instr.index 24 (.agg #[.int .u64 (lim a 0), .int .u64 (lim a 1), .int .u64 (lim a 2), .int .u64 (lim a 3)]) (.int .i64 0)).run Tryz.prog w = .ok (.int .u64 (lim a 0)) w := fun _ => by kernel_rfl
 have i1 : ∀ w, (Instr.index 24 (.agg #[.int .u64 (lim a 0), .int .u64 (lim a 1), .int .u64 (lim a 2), .int .u64 (lim a 3)]) (.int .i64 1)).run Tryz.prog w = .ok (.int .u64 (lim a 1)) w := fun _ => by kernel_rfl
 have i2 : ∀ w, (Instr.index 24 (.agg #[.int .u64 (lim a 0), .int .u64 (lim a 1), .int .u64 (lim a 2), .int .u64 (lim a 3)]) (.int .i64 2)).run Tryz.prog w = .ok (.int .u64 (lim a 2)) w := fun _ => by kernel_rfl
 have i3 : ∀ w, (Instr.index 24 (.agg #[.int .u64 (lim a 0), .int .u64 (lim a 1), .int .u64 (lim a 2), .int .u64 (lim a 3)]) (.int .i64 3)).run Tryz.prog w = .ok (.int .u64 (lim a 3)) w := fun _ => by kernel_rfl
 refine wpIn_loop_rounds 5 ?_
 rw [roundsIn_succ]
 gi_wp2_with fail
 obtain ⟨kB0, kB1, kB2, kB3⟩ := e4 LB
 obtain ⟨kM0, kM1, kM2, kM3⟩ := e4 LM
 refine wpIn_region_mix (C := Grows W0) free_wide [some true, some true, some true, some true, some true, some true, some true, some true, some true, none] hmx (by kernel_rfl) (by kernel_rfl) (grows_refl W0) ?_
 simp only [headOf, tailOf]
 repeat (go_big_quiet_step (first | (with_reducible exact Ret.at O0.out _)))
 refine wpQuiet_nil ?_
 rintro _ ⟨x0, rfl⟩
 clear kB0 kB1 kB2 kB3 kM0 kM1 kM2 kM3
 have LB := LB.later x0.below
 have LR := LR.later x0.below
 have LM := LM.later x0.below
 have LS := LS.later x0.below
 have Q := Q.trans (x0.below.mono Q.size)
 have kc := LM.cell 0 _ rfl
 have kz := LM.frozen 0
 go_wp2
 rw [calmPost_normal]
 clear kc kz
 have LB := LB.other (p := ⟨w.heap.size + 1 + 1 + 1, 0, none⟩) (by simp) (.int .u64 (lim (a ^^^ b) 0))
 have LR := LR.other (p := ⟨w.heap.size + 1 + 1 + 1, 0, none⟩) (by simp) (.int .u64 (lim (a ^^^ b) 0))
 have LS := LS.other (p := ⟨w.heap.size + 1 + 1 + 1, 0, none⟩) (by simp) (.int .u64 (lim (a ^^^ b) 0))
 have LM := LM.set 0 (.int .u64 (lim (a ^^^ b) 0))
 have Q := Q.setCell (p := ⟨w.heap.size + 1 + 1 + 1, 0, none⟩) (show w.heap.size ≤ _ by simp; omega) (.int .u64 (lim (a ^^^ b) 0))
 obtain ⟨W1, hW⟩ : ∃ W1, x0.w.setCell ⟨w.heap.size + 1 + 1 + 1, 0, none⟩ (.int .u64 (lim (a ^^^ b) 0)) = W1 := ⟨_, rfl⟩
 rw [hW] at LB LR LM LS Q ⊢
 clear hW
 gi_wp2_with fail
 replace LM : Has W1 (w.heap.size + 1 + 1 + 1) 24 #[.int .u64 (lim (a ^^^ b) 0), .int .u64 0, .int .u64 0, .int .u64 0] := LM
 rw [roundsIn_succ]
 gi_wp2_with fail
 obtain ⟨kB0, kB1, kB2, kB3⟩ := e4 LB
 obtain ⟨kM0, kM1, kM2, kM3⟩ := e4 LM
 refine wpIn_region_mix (C := Grows W1) free_wide [some true, some true, some true, some true, some true, some true, some true, some true, some true, none] hmx (by kernel_rfl) (by kernel_rfl) (grows_refl W1) ?_
 simp only [headOf, tailOf]
 repeat (go_big_quiet_step (first | (with_reducible exact Ret.at O1.out _)))
 refine wpQuiet_nil ?_
 rintro _ ⟨x1, rfl⟩
 clear kB0 kB1 kB2 kB3 kM0 kM1 kM2 kM3
 have LB := LB.later x1.below
 have LR := LR.later x1.below
 have LM := LM.later x1.below
 have LS := LS.later x1.below
 have Q := Q.trans (x1.below.mono Q.size)
 have kc := LM.cell 1 _ rfl
 have kz := LM.frozen 1
 go_wp2
 rw [calmPost_normal]
 clear kc kz
 have LB := LB.other (p := ⟨w.heap.size + 1 + 1 + 1, 1, none⟩) (by simp) (.int .u64 (lim (a ^^^ b) 1))
 have LR := LR.other (p := ⟨w.heap.size + 1 + 1 + 1, 1, none⟩) (by simp) (.int .u64 (lim (a ^^^ b) 1))
 have LS := LS.other (p := ⟨w.heap.size + 1 + 1 + 1, 1, none⟩) (by simp) (.int .u64 (lim (a ^^^ b) 1))
 have LM := LM.set 1 (.int .u64 (lim (a ^^^ b) 1))
 have Q := Q.setCell (p := ⟨w.heap.size + 1 + 1 + 1, 1, none⟩) (show w.heap.size ≤ _ by simp; omega) (.int .u64 (lim (a ^^^ b) 1))
 obtain ⟨W2, hW⟩ : ∃ W2, x1.w.setCell ⟨w.heap.size + 1 + 1 + 1, 1, none⟩ (.int .u64 (lim (a ^^^ b) 1)) = W2 := ⟨_, rfl⟩
 rw [hW] at LB LR LM LS Q ⊢
 clear hW
 gi_wp2_with fail
 replace LM : Has W2 (w.heap.size + 1 + 1 + 1) 24 #[.int .u64 (lim (a ^^^ b) 0), .int .u64 (lim (a ^^^ b) 1), .int .u64 0, .int .u64 0] := LM
 rw [roundsIn_succ]
 gi_wp2_with fail
 obtain ⟨kB0, kB1, kB2, kB3⟩ := e4 LB
 obtain ⟨kM0, kM1, kM2, kM3⟩ := e4 LM
 refine wpIn_region_mix (C := Grows W2) free_wide [some true, some true, some true, some true, some true, some true, some true, some true, some true, none] hmx (by kernel_rfl) (by kernel_rfl) (grows_refl W2) ?_
 simp only [headOf, tailOf]
 repeat (go_big_quiet_step (first | (with_reducible exact Ret.at O2.out _)))
 refine wpQuiet_nil ?_
 rintro _ ⟨x2, rfl⟩
 clear kB0 kB1 kB2 kB3 kM0 kM1 kM2 kM3
 have LB := LB.later x2.below
 have LR := LR.later x2.below
 have LM := LM.later x2.below
 have LS := LS.later x2.below
 have Q := Q.trans (x2.below.mono Q.size)
 have kc := LM.cell 2 _ rfl
 have kz := LM.frozen 2
 go_wp2
 rw [calmPost_normal]
 clear kc kz
 have LB := LB.other (p := ⟨w.heap.size + 1 + 1 + 1, 2, none⟩) (by simp) (.int .u64 (lim (a ^^^ b) 2))
 have LR := LR.other (p := ⟨w.heap.size + 1 + 1 + 1, 2, none⟩) (by simp) (.int .u64 (lim (a ^^^ b) 2))
 have LS := LS.other (p := ⟨w.heap.size + 1 + 1 + 1, 2, none⟩) (by simp) (.int .u64 (lim (a ^^^ b) 2))
 have LM := LM.set 2 (.int .u64 (lim (a ^^^ b) 2))
 have Q := Q.setCell (p := ⟨w.heap.size + 1 + 1 + 1, 2, none⟩) (show w.heap.size ≤ _ by simp; omega) (.int .u64 (lim (a ^^^ b) 2))
 obtain ⟨W3, hW⟩ : ∃ W3, x2.w.setCell ⟨w.heap.size + 1 + 1 + 1, 2, none⟩ (.int .u64 (lim (a ^^^ b) 2)) = W3 := ⟨_, rfl⟩
 rw [hW] at LB LR LM LS Q ⊢
 clear hW
 gi_wp2_with fail
 replace LM : Has W3 (w.heap.size + 1 + 1 + 1) 24 #[.int .u64 (lim (a ^^^ b) 0), .int .u64 (lim (a ^^^ b) 1), .int .u64 (lim (a ^^^ b) 2), .int .u64 0] := LM
 rw [roundsIn_succ]
 gi_wp2_with fail
 obtain ⟨kB0, kB1, kB2, kB3⟩ := e4 LB
 obtain ⟨kM0, kM1, kM2, kM3⟩ := e4 LM
 refine wpIn_region_mix (C := Grows W3) free_wide [some true, some true, some true, some true, some true, some true, some true, some true, some true, none] hmx (by kernel_rfl) (by kernel_rfl) (grows_refl W3) ?_
 simp only [headOf, tailOf]
 repeat (go_big_quiet_step (first | (with_reducible exact Ret.at O3.out _)))
 refine wpQuiet_nil ?_
 rintro _ ⟨x3, rfl⟩
 clear kB0 kB1 kB2 kB3 kM0 kM1 kM2 kM3
 have LB := LB.later x3.below
 have LR := LR.later x3.below
 have LM := LM.later x3.below
 have LS := LS.later x3.below
 have Q := Q.trans (x3.below.mono Q.size)
 have kc := LM.cell 3 _ rfl
 have kz := LM.frozen 3
 go_wp2
 rw [calmPost_normal]
 clear kc kz
 have LB := LB.other (p := ⟨w.heap.size + 1 + 1 + 1, 3, none⟩) (by simp) (.int .u64 (lim (a ^^^ b) 3))
 have LR := LR.other (p := ⟨w.heap.size + 1 + 1 + 1, 3, none⟩) (by simp) (.int .u64 (lim (a ^^^ b) 3))
 have LS := LS.other (p := ⟨w.heap.size + 1 + 1 + 1, 3, none⟩) (by simp) (.int .u64 (lim (a ^^^ b) 3))
 have LM := LM.set 3 (.int .u64 (lim (a ^^^ b) 3))
 have Q := Q.setCell (p := ⟨w.heap.size + 1 + 1 + 1, 3, none⟩) (show w.heap.size ≤ _ by simp; omega) (.int .u64 (lim (a ^^^ b) 3))
 obtain ⟨W4, hW⟩ : ∃ W4, x3.w.setCell ⟨w.heap.size + 1 + 1 + 1, 3, none⟩ (.int .u64 (lim (a ^^^ b) 3)) = W4 := ⟨_, rfl⟩
 rw [hW] at LB LR LM LS Q ⊢
 clear hW
 gi_wp2_with fail
 replace LM : Has W4 (w.heap.size + 1 + 1 + 1) 24 #[.int .u64 (lim (a ^^^ b) 0), .int .u64 (lim (a ^^^ b) 1), .int .u64 (lim (a ^^^ b) 2), .int .u64 (lim (a ^^^ b) 3)] := LM
 rw [roundsIn_succ]
 have k0 := LM.cell 0 _ rfl
 have r0 := LR.cell 0 _ rfl
 have z0 := LR.frozen 0
 have k1 := LM.cell 1 _ rfl
 have r1 := LR.cell 1 _ rfl
 have z1 := LR.frozen 1
 have k2 := LM.cell 2 _ rfl
 have r2 := LR.cell 2 _ rfl
 have z2 := LR.frozen 2
 have k3 := LM.cell 3 _ rfl
 have r3 := LR.cell 3 _ rfl
 have z3 := LR.frozen 3
 gi_wp2_with fail
 clear k0 r0 z0 k1 r1 z1 k2 r2 z2 k3 r3 z3
 have LR := (s4 LR (lim (a ^^^ b)))
 obtain ⟨e0, e1, e2, e3⟩ := c4 LR
 have Q := (q4 (w.heap.size + 1 + 1) Q (by omega) (lim (a ^^^ b)))
 exact ⟨_, by simp [results, Tryz.f152, go_sem, e0, e1, e2, e3], rfl, Q⟩
def deB : List Int := [0, 1, 56, 2, 57, 49, 28, 3, 61, 58, 42, 50, 38, 29, 17, 4, 62, 47, 59, 36, 45, 43, 51, 22, 53, 39, 33, 30, 24, 18, 12, 5, 63, 55, 48, 27, 60, 41, 37, 16, 46, 35, 44, 21, 52, 32, 23, 11, 54, 26, 40, 15, 34, 20, 31, 10, 25, 14, 19, 9, 13, 8, 7, 6]
structure Tab (W : World) : Prop where
 lt : 0 < W.heap.size
 cell : ∀ i, i < 64 → W.cell? ⟨0, i, none⟩ = some (.int .u8 (deB.getD i 0))
theorem Tab.later {W W' : World} (h : Tab W) (hb : Below W.heap.size W W') : Tab W' := ⟨Nat.lt_of_lt_of_le h.lt hb.size, fun i hi => (hb.cell (p := ⟨0, i, none⟩) h.lt).trans (h.cell i hi)⟩
theorem Tab.below {W W' : World} {n : Nat} (h : Tab W) (hb : Below n W W') (hn : 0 < n) : Tab W' := ⟨Nat.lt_of_lt_of_le h.lt hb.size, fun i hi => (hb.cell (p := ⟨0, i, none⟩) hn).trans (h.cell i hi)⟩
theorem Tab.alloc {W : World} (h : Tab W) (o : Obj) : Tab (W.alloc o) := h.later ((Below.refl _ W).alloc (Nat.le_refl _) o)
theorem Tab.other {W : World} (h : Tab W) {p : Addr} (hp : 0 < p.block) (v : Value) : Tab (W.setCell p v) := h.below (n := 1) ((Below.refl 1 W).setCell hp v) (by omega)
theorem deB_fin : ∀ t : Fin 64, deB.getD (2 ^ t.val * 285870213051353865 % 18446744073709551616 / 288230376151711744) 0 = (t.val : Int) ∧ 2 ^ t.val * 285870213051353865 % 18446744073709551616 / 288230376151711744 < 64 := by decide +kernel
theorem deB_get (t : Nat) (ht : t < 64) : ∃ X I : Nat, 2 ^ t * 285870213051353865 % 18446744073709551616 = X ∧ X / 288230376151711744 = I ∧ I < 64 ∧ deB.getD I 0 = (t : Int) :=
 ⟨_, _, rfl, rfl, (deB_fin ⟨t, ht⟩).2, (deB_fin ⟨t, ht⟩).1⟩
theorem tz_walk (p t I : Nat) (N T X : Int) (h1 : IntKind.u64.wrap (-(p : Int)) = N) (h2 : bits .and .u64 (p : Int) N = T) (h3 : IntKind.u64.wrap (T * 285870213051353865) = X) (hI : X / 288230376151711744 = (I : Int)) (hI0 : (I : Int) < 64) (ht : (t : Int) < 64) (hp0 : (p : Int) ≠ 0)
  (w : World) (hc : w.cell? ⟨0, I, none⟩ = some (.int .u8 (t : Int))) : Calls Tryz.prog 181 #[.int .u64 (p : Int)] w fun e w' => e = .returned (.int .i64 (t : Int)) ∧ w' = w := by
 go_enter Tryz.func181, Tryz.ntmps181
 go_wp2
 go_ret
 exact ⟨rfl, rfl⟩
theorem tz_calls (p : Nat) (h0 : p ≠ 0) (hp : p < 18446744073709551616) (w : World) (hT : Tab w) : Calls Tryz.prog 181 #[.int .u64 (p : Int)] w fun e w' => e = .returned (.int .i64 (tz p : Int)) ∧ w' = w := by
 have ht : tz p < 64 := by obtain ⟨_, _, h⟩ := tz_split p h0 hp; exact h
 have ha := and_neg p h0 hp
 generalize tz p = t at *
 obtain ⟨X, I, hX, hI, hI0, hd⟩ := deB_get t ht
 have hc := hT.cell I hI0
 rw [hd] at hc
 refine tz_walk p t I ((18446744073709551616 - p : Nat) : Int) ((2 ^ t : Nat) : Int) (X : Int) ?_ ?_ ?_ (by omega) (by omega) (by omega) (by omega) w hc
 ·rw [IntKind.wrap_u64]; omega
 ·rw [bits_and_u64_nat _ _ hp (by omega), ha]
 ·rw [IntKind.wrap_u64, ← hX]
  generalize 2 ^ t = P
  omega
end
section
open Go Go.RowKit Go.Shelf
attribute [local go_sem] Oper.semAt_some wide_fn Grows
theorem drop_cons {L : List Nat} {k x : Nat} {r : List Nat} (h : L.drop k = x :: r) : k < L.length ∧ L.getD k 0 = x ∧ L.drop (k + 1) = r := by
 have hk : k < L.length := by
  rcases Nat.lt_or_ge k L.length with h' | h'
  ·exact h'
  ·rw [List.drop_eq_nil_of_le h'] at h; cases h
 rw [List.drop_eq_getElem_cons hk] at h
 injection h with h1 h2
 exact ⟨hk, by rw [List.getD_eq_getElem?_getD, List.getElem?_eq_getElem hk]; exact h1, h2⟩
theorem KeepsAt.lt {L : List Nat} {W W' : World} (h : KeepsAt L W W') {b : Nat} (hb : b ∈ L) (hl : b < W.heap.size) : b < W'.heap.size := by
 have := h b hb
 rw [Array.getElem?_eq_getElem hl] at this
 exact (Array.getElem?_eq_some_iff.1 this).1
theorem ones_seq (n : Nat) (hn : 1 ≤ n) (Bs b : Nat) (a : Nat) (w : World) (hBs : Bs < w.heap.size) (hb : b < w.heap.size) (hT : Tab w)
  (hcB : w.cell? ⟨Bs, 0, none⟩ = some (.pointer (some ⟨b, 0, none⟩))) (hc : ∀ j, j < 4 → w.cell? ⟨b, j, none⟩ = some (.int .u64 (lim a j))) :
  SeqN Fence.wide n Tryz.prog 180 #[.pointer (some ⟨Bs, 0, none⟩)] (fun k => #[.int .i64 (((allOnes a).getD k 0 : Nat) : Int)]) (KeepsAt [b, Bs, 0]) (allOnes a).length w := by
 intro l J Jx W hW hJA _ hY h0
 have hBs' := (hW.cell (p := ⟨Bs, 0, none⟩) hBs).trans hcB
 have hc' : ∀ j, j < 4 → W.cell? ⟨b, j, none⟩ = some (.int .u64 (lim a j)) := fun j hj => (hW.cell (p := ⟨b, j, none⟩) hb).trans (hc j hj)
 have hT' : Tab W := hT.later hW
 have hbW : b < W.heap.size := Nat.lt_of_lt_of_le hb hW.size
 have hBW : Bs < W.heap.size := Nat.lt_of_lt_of_le hBs hW.size
 clear hcB hc hT hW
 have HL := hid hc'
 have HT := hid hT'
 have HA := hid hJA
 have HY := hid hY
 clear hc' hT' hJA hY
 have hmx : Tryz.prog.follows .mixedOrders = true := by kernel_rfl
 refine callsIn_of_wp Tryz.func180 rfl trivial ?_ rfl
 simp only [Tryz.ntmps180, List.size_toArray, List.length_cons, List.length_nil, Nat.reduceAdd, Nat.reduceSub, Array.replicate_succ, Array.replicate_zero, List.push_toArray, List.append_toArray, List.nil_append, List.cons_append]
 gi_wp2
 gi_loopw [6] (fun i wr => ∃ k q : Nat, i = .int .i64 (q : Int) ∧ q ≤ 4 ∧ Hid (k ≤ (allOnes a).length ∧ (allOnes a).drop k = restF a (4 - q) q ∧ J k wr ∧ KeepsAt [b, Bs, 0] W wr))
  (fun i _ => 4 - (intOf i).toNat)
 case atStart => exact ⟨0, 0, rfl, by omega, ⟨Nat.zero_le _, rfl, h0, KeepsAt.refl _ _⟩⟩
 case round =>
  obtain ⟨k, q, rfl, hq4, hH⟩ := hrel
  by_cases hlt : q < 4
  ·have hqI : (q : Int) < 4 := by omega
   have hq0 : (0 : Int) ≤ (q : Int) := by omega
   obtain ⟨hk, hd, hJs, hnx⟩ := hH.out
   have kc : ∀ x : Ext wr, x.w.cell? ⟨b, q, none⟩ = some (.int .u64 (lim a q)) := fun x => (x.cell (p := ⟨b, q, none⟩) (hnx.lt (by simp) hbW)).trans ((hnx.cell (p := ⟨b, q, none⟩) (by simp)).trans (HL.out q hlt))
   have HD := hid hd
   have HK := hid hk
   have HJ := hid hJs
   have HN := hid hnx
   have HQ := hid hlt
   clear hH hk hd hJs hnx hlt
   gi_wp2_with fail
   refine wpIn_region_quick (C := Grows wr) free_wide hmx (by kernel_rfl) (by kernel_rfl) (grows_refl wr) ?_
   repeat (go_big_quiet_step (fail))
   refine wpQuiet_nil ?_
   rintro _ ⟨x, rfl⟩
   have HJ := hid (HA.out k wr x.w none HJ.out (grown_of_below x.below none) (fun r e => by cases e))
   have HN := hid (HN.out.below x.below (fun b' hb' => HN.out.lt hb' (by simp at hb'; have := HT.out.lt; omega)))
   generalize x.w = wx at *
   clear x
   gi_wp2_with fail
   gi_loopw [4] (fun p wr => ∃ k m : Nat, p = .int .u64 (m : Int) ∧ Hid (m < 18446744073709551616 ∧ k ≤ (allOnes a).length ∧ (allOnes a).drop k = (onesL m).map (64 * q + ·) ++ restF a (4 - (q + 1)) (q + 1) ∧ J k wr ∧ KeepsAt [b, Bs, 0] W wr))
    (fun p _ => (intOf p).toNat)
   case atStart => 
    refine ⟨k, ln a q, by rw [lim_ln a q HQ.out], ⟨ln_lt a q, HK.out, ?_, HJ.out, HN.out⟩⟩
    rw [HD.out, show 4 - q = 4 - (q + 1) + 1 by have := HQ.out; omega]
    rfl
   case round =>
    obtain ⟨k', m, rfl, hH⟩ := hrel
    clear HK HD HJ HN
    by_cases hm : m = 0
    ·subst hm
     have HQ2 := hid HQ.out
     gi_wp2
     go_roundw
     case rel =>
      obtain ⟨_, hk, hd, hJs, hnx⟩ := hH.out
      rw [onesL_zero] at hd
      exact ⟨k', q + 1, by simp, HQ2.out, ⟨hk, hd, hJs, hnx⟩⟩
     case measure => have := HQ2.out; simp [intOf]; omega
    ·obtain ⟨hm64, hk, hd, hJs, hnx⟩ := hH.out
     rw [onesL_succ m hm] at hd
     simp only [List.map_cons, List.cons_append] at hd
     obtain ⟨hkl, hg, hd'⟩ := drop_cons hd
     obtain ⟨fn, tmps, assign, body, hy, hR⟩ := HY.out k' wr hkl hJs
     have hv : ((((allOnes a).getD k' 0 : Nat)) : Int) = (q : Int) * 64 + (tz m : Int) := by rw [hg]; omega
     rw [hv] at hy
     have hTr : Tab wr := ⟨hnx.lt (by simp) HT.out.lt, fun i hi => (hnx.cell (p := ⟨0, i, none⟩) (by simp)).trans (HT.out.cell i hi)⟩
     have HC := hid (tz_calls m hm hm64 wr hTr)
     have hba : bits .and .u64 (m : Int) ((m : Int) - 1) = (clr m : Int) := by
      have := bits_and_u64_nat m (m - 1) hm64 (by omega)
      rw [and_pred m hm hm64] at this
      rw [← this]
      congr 1
      omega
     have hm1 : (1 : Int) ≤ (m : Int) := by omega
     have hm0 : (m : Int) ≠ 0 := by omega
     have hsub : IntKind.u64.wrap ((m : Int) - 1) = (m : Int) - 1 := by rw [IntKind.wrap_u64]; omega
     have htz : (tz m : Int) < 64 := by obtain ⟨_, _, h⟩ := tz_split m hm hm64; omega
     have HM := hid hm
     have HM6 := hid hm64
     have HK := hid hkl
     have HD := hid hd'
     have HN := hid hnx
     generalize tz m = t at *
     clear hH hd hg hd' hk hJs hnx hv hTr hm hm64 hkl
     gi_wp2_with fail
     refine (callsIn_free free_wide HC.out).mono ?_
     rintro e w' ⟨rfl, rfl⟩
     gi_wp2
     refine hR.mono ?_
     rintro e W3 (⟨rfl, hJ3, hk3⟩ | ⟨rfl, hJx3⟩)
     ·gi_wp2
      go_roundw
      case rel => exact ⟨k' + 1, clr m, rfl, ⟨by have := clr_lt m HM.out; have := HM6.out; omega, HK.out, HD.out, hJ3, HN.out.trans hk3⟩⟩
      case measure => have := clr_lt m HM.out; simp [intOf]; omega
     ·gi_wp2
      refine bodyPost_ret (results_none rfl _ _ _) rfl ?_
      exact ⟨⟨_, rfl⟩, .inr ⟨k', HK.out, hJx3⟩⟩
  ·obtain rfl : q = 4 := by omega
   obtain ⟨hk, hd, hJs, hnx⟩ := hH.out
   have hk2 : k = (allOnes a).length := by
    have h1 : (allOnes a).drop k = [] := hd
    have := List.drop_eq_nil_iff.1 h1
    omega
   have HJ : Hid (J (allOnes a).length wr) := by rw [← hk2]; exact hJs
   clear hH hJs hk hd hk2 hnx
   gi_wp2
   go_end0
   exact ⟨⟨_, rfl⟩, .inl HJ.out⟩
end
end Go.Proofs.YtnkhmgmganejmaaGreatDoor
