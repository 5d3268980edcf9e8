import Derived.Test.YtadfkiebblmfkaaGreatDoorS05
import Derived.Test.YtadfkiebblmfkaaGreatDoorS03
import Derived.Laws.StructEq
import Derived.Laws.Cover2
import Derived.Lib.Hide
/- Mul. For every two words. -/
namespace Go.Proofs.YtadfkiebblmfkaaGreatDoor
open Go Go.RowKit Go.Shelf
attribute [local go_sem] Oper.semAt_some Grows wide_fn

def MulSt (w : World) (a b : Nat) (k : Nat) (W : World) : Prop :=
  (Arr4 W w.heap.size 28 (lim a) ∧ Arr4 W (w.heap.size + 1) 28 (lim b) ∧ Arr4 W (w.heap.size + 1 + 1) 28 (fun _ => 0) ∧ Arr4 W (w.heap.size + 1 + 1 + 1) 28 (mulAt (lim a) (lim b) k) ∧
    Boxed W (w.heap.size + 1 + 1 + 1 + 1) 160 (.pointer (some ⟨w.heap.size + 1, 0, none⟩))) ∧ Below w.heap.size w W
theorem MulSt.own (w : World) (a b B : Nat) (hB : w.heap.size ≤ B) : OwnFrom B (fun k W => MulSt w a b k W) :=
  OwnFrom.and (Own.from (fun s X Y row hs hg hr => ⟨Arr4.own _ _ (fun _ : Nat => _) s X Y row hs.1 hg hr, Arr4.own _ _ (fun _ : Nat => _) s X Y row hs.2.1 hg hr, Arr4.own _ _ (fun _ : Nat => fun _ => 0) s X Y row hs.2.2.1 hg hr,
    Arr4.own _ _ (fun k : Nat => mulAt (lim a) (lim b) k) s X Y row hs.2.2.2.1 hg hr, boxed_own _ _ (fun _ : Nat => _) s X Y row hs.2.2.2.2 hg hr⟩) _) (ownFrom_below (Nat.le_refl _) hB)

theorem keepsFrom_grown {B S : Nat} {W W' : World} (h : W.grownBy W' (some S)) (hS : ∃ cs t, W.heap[S]? = some (.cells cs t (0, 0))) : KeepsFrom B W W' :=
  ⟨h.size, fun k o _ hk ho => (h.block k (Array.getElem?_eq_some_iff.1 hk).1 (fun e => by
    obtain ⟨cs, t, hc⟩ := hS
    injection e with e
    subst e
    rw [hc] at hk
    cases hk
    cases ho)).trans hk⟩
theorem KeepsAt.grown {L : List Nat} {S : Nat} {W A B : World} (h : KeepsAt L W A) (hg : A.grownBy B (some S)) (hL : ∀ b, b ∈ L → b < A.heap.size ∧ b ≠ S) : KeepsAt L W B :=
  fun b hb => (hg.block b (hL b hb).1 (fun e => (hL b hb).2 (by injection e))).trans (h b hb)
theorem below_grown {B S : Nat} {w A C : World} (h : Below B w A) (hg : A.grownBy C (some S)) (hS : B ≤ S) (hB : B ≤ A.heap.size) : Below B w C := h.grown hg hB (fun k e => by injection e with e; omega)

end Go.Proofs.YtadfkiebblmfkaaGreatDoor

/- Of, Int. For every number and word. -/
namespace Go.Proofs.YtadfkiebblmfkaaGreatDoor
open Go Go.RowKit Go.Shelf
attribute [local go_sem] Oper.semAt_some Grows wide_fn

/-- A number of Go's int. -/
def I64 (n : Int) : Prop := -9223372036854775808 ≤ n ∧ n ≤ 9223372036854775807
/-- The number of an int's word. -/
def ofN (n : Int) : Nat := if n < 0 then (115792089237316195423570985008687907853269984665640564039457584007913129639936 + n).toNat else n.toNat
theorem ofN_lt (n : Int) (h : I64 n) : W256 (ofN n) := by unfold W256 ofN I64 at *; split <;> omega
theorem of_neg (n : Int) (h : I64 n) (hn : n < 0) : lim (ofN n) 0 = 18446744073709551616 + n ∧ lim (ofN n) 1 = 18446744073709551615 ∧ lim (ofN n) 2 = 18446744073709551615 ∧ lim (ofN n) 3 = 18446744073709551615 := by
  unfold I64 at h
  refine lim_num (fun k => if k = 0 then 18446744073709551616 + n else 18446744073709551615) _ ?_ ?_ ?_ ?_ ?_
  · unfold U64; simp; omega
  · unfold U64; simp
  · unfold U64; simp
  · unfold U64; simp
  · unfold num ofN; rw [if_pos hn]; simp; omega
theorem of_pos (n : Int) (h : I64 n) (hn : ¬ n < 0) : lim (ofN n) 0 = n ∧ lim (ofN n) 1 = 0 ∧ lim (ofN n) 2 = 0 ∧ lim (ofN n) 3 = 0 := by
  unfold I64 at h
  refine lim_num (fun k => if k = 0 then n else 0) _ ?_ ?_ ?_ ?_ ?_
  · unfold U64; simp; omega
  · unfold U64; simp
  · unfold U64; simp
  · unfold U64; simp
  · unfold num ofN; rw [if_neg hn]; simp; omega

theorem of_wrap (n : Int) (h : I64 n) : lim (ofN n) 0 = IntKind.u64.wrap n ∧ lim (ofN n) 1 = IntKind.u64.wrap (n / 9223372036854775808) ∧ lim (ofN n) 2 = IntKind.u64.wrap (n / 9223372036854775808) ∧ lim (ofN n) 3 = IntKind.u64.wrap (n / 9223372036854775808) := by
  by_cases hn : n < 0
  · obtain ⟨h0, h1, h2, h3⟩ := of_neg n h hn
    rw [h0, h1, h2, h3]
    unfold I64 at h
    simp only [IntKind.wrap_u64]
    refine ⟨?_, ?_, ?_, ?_⟩ <;> omega
  · obtain ⟨h0, h1, h2, h3⟩ := of_pos n h hn
    rw [h0, h1, h2, h3]
    unfold I64 at h
    simp only [IntKind.wrap_u64]
    refine ⟨?_, ?_, ?_, ?_⟩ <;> omega

set_option maxHeartbeats 1000000 in
theorem of_ret (n : Int) (h : I64 n) : Ret Tryz.prog 75 #[.int .i64 n] (wv (ofN n)) := by
  intro w
  rw [wv_of (of_wrap n h)]
  go_enter Tryz.func75, Tryz.ntmps75
  go_wp2
  exact bodyPost_ret (results_word rfl rfl (Arr4.new w _ _ _ _ _)) rfl ⟨rfl, (Below.refl _ _).alloc (Nat.le_refl _) _⟩

/-- The greatest number that Int tells. -/
def maxI : Nat := 4611686018427387903
theorem maxI_lim : lim maxI 0 = 4611686018427387903 ∧ lim maxI 1 = 0 ∧ lim maxI 2 = 0 ∧ lim maxI 3 = 0 := ⟨rfl, rfl, rfl, rfl⟩
theorem maxI_lt : W256 maxI := by unfold W256 maxI; omega
def intV (a : Nat) : Value := if a ≤ maxI then .tuple #[.int .i64 (a : Int), .bool true] else .tuple #[.int .i64 0, .bool false]

end Go.Proofs.YtadfkiebblmfkaaGreatDoor

/- What the walks of the laws share: blocks of known cells, '==' of words, regions of calls with contracts. -/
namespace Go.Proofs.YtadfkiebblmfkaaGreatDoor
open Go Go.RowKit

/-- Four parts, as a value. -/
abbrev W4 (a b c d : Int) : Value := .agg #[.int .u64 a, .int .u64 b, .int .u64 c, .int .u64 d]

theorem eq4 (a b c d a' b' c' d' : Int) (w : World) : (Op.equalIn 10000 28 (.agg #[.int .u64 a, .int .u64 b, .int .u64 c, .int .u64 d]) (.agg #[.int .u64 a', .int .u64 b', .int .u64 c', .int .u64 d'])).run Tryz.prog w = .ok (a == a' && b == b' && c == c' && d == d') w := by
  have u3 := Tryz.underlying26
  have a3 := Tryz.isAgg26
  have z3 := Tryz.sizeOf26
  rw [show (10000 : Nat) = 9999 + 1 from rfl, Op.equalIn]
  simp only [Sem.run_bind, run_underlying Tryz.underlying28, Result.andThen_ok]
  simp only [Std.Legacy.Range.forIn_eq_forIn_range', Std.Legacy.Range.size, Nat.sub_zero, Nat.add_sub_cancel, Nat.div_one, List.range'_succ, List.range'_zero, List.forIn_cons, List.forIn_nil]
  go_simp
  by_cases h1 : a = a' <;> by_cases h2 : b = b' <;> by_cases h3 : c = c' <;> by_cases h4 : d = d' <;> simp [h1, h2, h3, h4]

/-- A block of known cells. -/
def Has (W : World) (B : Nat) (t : TypeId) (cs : Array Value) : Prop := W.heap[B]? = some (.cells cs t (0, 0))
theorem Has.lt {W : World} {B : Nat} {t : TypeId} {cs : Array Value} (h : Has W B t cs) : B < W.heap.size := (Array.getElem?_eq_some_iff.1 h).1
theorem Has.cell {W : World} {B : Nat} {t : TypeId} {cs : Array Value} (h : Has W B t cs) (j : Nat) (v : Value) (hj : cs[j]? = some v) : W.cell? ⟨B, j, none⟩ = some v := by
  unfold Has at h
  simp [World.cell?, h, hj]
theorem Has.frozen {W : World} {B : Nat} {t : TypeId} {cs : Array Value} (h : Has W B t cs) (j : Nat) : W.frozen? ⟨B, j, none⟩ = false := by
  unfold Has at h
  simp [World.frozen?, h]
theorem Has.new (W : World) (t : TypeId) (cs : Array Value) : Has (W.alloc (.cells cs t)) W.heap.size t cs := World.alloc_heap_new W _
theorem Has.below {W W' : World} {B n : Nat} {t : TypeId} {cs : Array Value} (h : Has W B t cs) (hb : Below n W W') (hn : B < n) : Has W' B t cs := (hb.block B hn).trans h
theorem Has.later {W W' : World} {B : Nat} {t : TypeId} {cs : Array Value} (h : Has W B t cs) (hb : Below W.heap.size W W') : Has W' B t cs := h.below hb h.lt
theorem Has.alloc {W : World} {B : Nat} {t : TypeId} {cs : Array Value} (h : Has W B t cs) (o : Obj) : Has (W.alloc o) B t cs := h.later ((Below.refl _ W).alloc (Nat.le_refl _) o)
theorem Has.other {W : World} {B : Nat} {t : TypeId} {cs : Array Value} (h : Has W B t cs) {p : Addr} (hne : B ≠ p.block) (v : Value) : Has (W.setCell p v) B t cs := (Below.heap_setCell W p v B hne).trans h
theorem Has.set {W : World} {B : Nat} {t : TypeId} {cs : Array Value} (h : Has W B t cs) (k : Nat) (v : Value) : Has (W.setCell ⟨B, k, none⟩ v) B t (cs.setIfInBounds k v) := by
  obtain ⟨hlt, he⟩ := Array.getElem?_eq_some_iff.1 h
  show (W.heap.modify B _)[B]? = _
  rw [Array.getElem?_eq_getElem (by rw [Array.size_modify]; exact hlt), Array.getElem_modify_self, he]
  rfl

/-- A region of quiet operations, for a list of them. -/
theorem wp_region_quietL {P : Program} {C : World → Prop} {id : Nat} {Q : Exit → Act → World → Prop} {a : Act} {w : World} {l : List Oper} (hm : P.follows .mixedOrders = true) (hB : Region.lexB .any l.toArray = true)
    (hC : C { w with drawn := w.drawn + 1 }) (h : wpQuiet P l.toArray C (fun a' => ∀ w', C w' → Q .normal a' w') l a) : (Code.region id l.toArray true).wp P Q a w :=
  wp_region_quiet (C := C) hm hB hC (by simpa using h)

/-- The one cells, or the other ones. -/
def cellsIf (b : Bool) (x y : Array Value) : Array Value := if b = true then x else y
theorem cellsIf_true (x y : Array Value) : cellsIf true x y = x := rfl
theorem cellsIf_false (x y : Array Value) : cellsIf false x y = y := rfl

theorem Ret.of_eq {P : Program} {f : FuncId} {args args' : Array Value} {v v' : Value} (h : Ret P f args v) (ha : args = args') (hv : v = v') : Ret P f args' v' := by subst ha; subst hv; exact h
end Go.Proofs.YtadfkiebblmfkaaGreatDoor
