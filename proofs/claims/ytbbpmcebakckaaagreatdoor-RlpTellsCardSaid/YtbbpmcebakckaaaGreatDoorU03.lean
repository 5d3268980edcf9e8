import Derived.Test.YtbbpmcebakckaaaGreatDoorU02
import Derived.Shelf.Spec.BitsCarry
import Derived.Shelf.Bits.Mul64
import Derived.Test.YtbbpmcebakckaaaGreatDoorU01
import Derived.RangeFuncRecord
import Derived.RangeFuncNested
import Derived.RangeFuncBound
import Derived.RangeFuncCalls
import Derived.RangeFuncLeaves
import Derived.RangeFuncBox
import Derived.Laws.StructEq
import Derived.Laws.Cover2
import Derived.Lib.Hide
/- Sums, differences and the order of words. For every word. -/
namespace Go.Proofs.YtbbpmcebakckaaaGreatDoor
open Go Go.RowKit Go.Shelf
attribute [local go_sem] Oper.semAt_some Grows wide_fn

/-- A word, by its number. -/
def wv (n : Nat) : Value := .agg #[.int .u64 (lim n 0), .int .u64 (lim n 1), .int .u64 (lim n 2), .int .u64 (lim n 3)]
theorem wv_of {n : Nat} {x0 x1 x2 x3 : Int} (h : lim n 0 = x0 ∧ lim n 1 = x1 ∧ lim n 2 = x2 ∧ lim n 3 = x3) : wv n = .agg #[.int .u64 x0, .int .u64 x1, .int .u64 x2, .int .u64 x3] := by
  obtain ⟨rfl, rfl, rfl, rfl⟩ := h; rfl

theorem run_addc (x y c : Int) (hx : U64 x) (hy : U64 y) (hc : Bit c) (w : World) : (callFunc 93 #[.int .u64 x, .int .u64 y, .int .u64 c]).run Tryz.prog w =
    .ok (.value (.tuple #[.int .u64 ((x + y + c) % 18446744073709551616), .int .u64 ((x + y + c) / 18446744073709551616)])) w := by
  obtain ⟨x, rfl⟩ := Int.eq_ofNat_of_zero_le hx.1
  obtain ⟨y, rfl⟩ := Int.eq_ofNat_of_zero_le hy.1
  obtain ⟨c, rfl⟩ := Int.eq_ofNat_of_zero_le hc.1
  have h1 := hx.2; have h2 := hy.2; have h3 := hc.2
  rw [run_callFunc_extern Tryz.func93 (by kernel_rfl) (by kernel_rfl) (by kernel_rfl) (e := add64Entry) (by kernel_rfl), run_add64 x y c (by omega) (by omega) (by omega) (by omega)]
  rfl
/-- What was there before reads as it did. -/
theorem bcell {W w1 : World} (hb : Below W.heap.size W w1) : (∀ b o, b < W.heap.size → w1.cell? ⟨b, o, none⟩ = W.cell? ⟨b, o, none⟩) ∧ (∀ b o, b < W.heap.size → w1.frozen? ⟨b, o, none⟩ = W.frozen? ⟨b, o, none⟩) :=
  ⟨fun b o h => hb.cell (p := ⟨b, o, none⟩) h, fun b o h => hb.frozen (p := ⟨b, o, none⟩) h⟩

/-- A new block that holds a word. -/
theorem Arr4.word (W : World) (t : TypeId) (n : Nat) : Arr4 (W.alloc (.cells #[.int .u64 (lim n 0), .int .u64 (lim n 1), .int .u64 (lim n 2), .int .u64 (lim n 3)] t)) W.heap.size t (lim n) := World.alloc_heap_new W _

theorem Arr4.store {W : World} {B : Nat} {t : TypeId} {m : Nat → Int} (h : Arr4 W B t m) (m' : Nat → Int) :
    Arr4 ((((W.setCell ⟨B, 0, none⟩ (.int .u64 (m' 0))).setCell ⟨B, 1, none⟩ (.int .u64 (m' 1))).setCell ⟨B, 2, none⟩ (.int .u64 (m' 2))).setCell ⟨B, 3, none⟩ (.int .u64 (m' 3))) B t m' := by
  have h := Arr4.set (Arr4.set (Arr4.set (Arr4.set h (k := 0) (by omega) (m' 0)) (k := 1) (by omega) (m' 1)) (k := 2) (by omega) (m' 2)) (k := 3) (by omega) (m' 3)
  exact h

/-- A word handed back out of its variable. -/
theorem results_word {fn : Func} {t : Tmp} {tmps : Array Value} {W : World} {B : Nat} {m : Nat → Int} (h : fn.results = #[ResultVar.cell t 25]) (ht : tmps.getD t undef = .pointer (some ⟨B, 0, none⟩)) (hA : Arr4 W B 25 m) :
    (results fn tmps).run Tryz.prog W = .ok (.agg #[.int .u64 (m 0), .int .u64 (m 1), .int .u64 (m 2), .int .u64 (m 3)]) W := by
  have e0 := hA.cell (j := 0) (by omega)
  have e1 := hA.cell (j := 1) (by omega)
  have e2 := hA.cell (j := 2) (by omega)
  have e3 := hA.cell (j := 3) (by omega)
  simp at ht
  simp [results, h, ht, go_sem, e0, e1, e2, e3]


/-! ### The order -/
set_option maxHeartbeats 1000000 in
theorem compare_ret (x y : Int) : Ret Tryz.prog 103 #[.int .u64 x, .int .u64 y] (.int .i64 (cmpO 0 x y)) := by
  intro w
  by_cases h1 : x < y
  · have e : cmpO 0 x y = -1 := by unfold cmpO; rw [if_pos h1]
    rw [e]; clear e
    go_enter Tryz.func103, Tryz.ntmps103
    go_wp2
    go_ret
    exact ⟨rfl, Below.refl _ _⟩
  · by_cases h2 : y < x
    · have e : cmpO 0 x y = 1 := by unfold cmpO; rw [if_neg h1, if_pos h2]
      rw [e]; clear e
      go_enter Tryz.func103, Tryz.ntmps103
      go_wp2
      go_ret
      exact ⟨rfl, Below.refl _ _⟩
    · have e : cmpO 0 x y = 0 := by unfold cmpO; rw [if_neg h1, if_neg h2]
      rw [e]; clear e
      go_enter Tryz.func103, Tryz.ntmps103
      go_wp2
      go_ret
      exact ⟨rfl, Below.refl _ _⟩

/-- The first one that is not 0, of two. -/
def orOf (a b : Int) : Int := if a = 0 then b else a
set_option maxHeartbeats 1000000 in
theorem or_int (a b : Int) (g cap : Nat) (w : World) (h0 : w.cell? ⟨g, 0, none⟩ = some (.int .i64 a)) (h1 : w.cell? ⟨g, 1, none⟩ = some (.int .i64 b)) :
    Calls Tryz.prog 102 #[.slice (some ⟨g, 0, none⟩) 2 cap] w fun e w' => e = .returned (.int .i64 (orOf a b)) ∧ w = w' := by
  have hz : Hid (a = 0 → orOf a b = b) := fun h => by unfold orOf; rw [if_pos h]
  have hn : Hid (a ≠ 0 → orOf a b = a) := fun h => by unfold orOf; rw [if_neg h]
  go_enter Tryz.func102, Tryz.ntmps102
  go_wp2
  go_loop [8] (fun i => ∃ k : Nat, k ≤ 2 ∧ i = .int .i64 k ∧ (0 < k → a = 0) ∧ (1 < k → b = 0)) (fun i => 2 - (intOf i).toNat)
  case atStart => exact ⟨0, by omega, rfl, fun h => by omega, fun h => by omega⟩
  case round =>
    obtain ⟨k, hk, rfl, ha, hb⟩ := hrel
    by_cases k0 : k = 0
    · subst k0
      clear ha hb
      by_cases e : a = 0
      · have et : (a != 0) = false := by simp [e]
        have HE := Lib.hid e
        clear e
        go_wp2
        go_round
        case rel => exact ⟨1, by omega, by simp, fun _ => HE.out, fun h => by omega⟩
        case measure => simp [intOf]
      · have et : (a != 0) = true := by simp [e]
        have HE := Lib.hid e
        clear e
        go_wp2
        go_ret
        exact ⟨by rw [hn.out HE.out]; rfl, rfl⟩
    · by_cases k1 : k = 1
      · subst k1
        have HA : Hid (a = 0) := ha (by omega)
        clear ha hb
        by_cases e : b = 0
        · have et : (b != 0) = false := by simp [e]
          have HE := Lib.hid e
          clear e
          go_wp2
          go_round
          case rel => exact ⟨2, by omega, by simp, fun _ => HA.out, fun _ => HE.out⟩
          case measure => simp [intOf]
        · have et : (b != 0) = true := by simp [e]
          have HE := Lib.hid e
          clear e
          go_wp2
          go_ret
          exact ⟨by rw [hz.out HA.out]; rfl, rfl⟩
      · obtain rfl : k = 2 := by omega
        have HA : Hid (a = 0) := ha (by omega)
        have HB : Hid (b = 0) := hb (by omega)
        clear ha hb
        go_wp2
        go_ret
        exact ⟨by rw [hz.out HA.out, HB.out]; rfl, rfl⟩

set_option maxHeartbeats 1000000 in
theorem pair_ret (x y l : Int) : Ret Tryz.prog 101 #[.int .u64 x, .int .u64 y, .int .i64 l] (.tuple #[.int .u64 0, .int .i64 (orOf (cmpO 0 x y) l)]) := by
  intro w
  go_enter Tryz.func101, Tryz.ntmps101
  go_wp2_with fail
  refine (compare_ret x y w).mono ?_
  rintro e w1 ⟨rfl, hb1⟩
  go_wp2_with fail
  refine (or_int (cmpO 0 x y) l _ _ _ (by go_simp) (by go_simp)).mono ?_
  rintro e w2 ⟨rfl, rfl⟩
  go_wp2
  go_ret2
  exact ⟨rfl, hb1.alloc hb1.size _⟩

theorem orOf_cmp (x y l : Int) : orOf (cmpO 0 x y) l = cmpO l x y := by
  unfold orOf cmpO
  by_cases h1 : x < y
  · simp [h1]
  · by_cases h2 : y < x
    · simp [h1, h2]
    · simp [h1, h2]

set_option maxRecDepth 100000 in
set_option maxHeartbeats 1000000 in
theorem cmp_ret (a b : Nat) (ha : W256 a) (hb : W256 b) : Ret Tryz.prog 99 #[wv a, wv b] (.int .i64 (wcmp a b)) := by
  intro w
  have hJ := fun W => join_int (lim a) (lim b) (fun _ _ => 0) (cmpN a b) 0 (fun _ => True) trivial (fun _ _ _ _ => trivial)
    (fun k _ l _ => by have h := pair_ret (lim a k) (lim b k) l; rw [orOf_cmp] at h; exact h) W
  have hP := cmp_parts a b ha hb
  have hL : leftOf (cmpN a b) 0 [0, 1, 2, 3] = wcmp a b := hP
  rw [hL] at hJ
  have HJ := Lib.hid hJ
  clear hJ hP hL
  unfold wv
  go_enter Tryz.func99, Tryz.ntmps99
  go_wp2_with fail
  have A1 := (Arr4.word w 25 a).alloc (.cells #[.int .u64 (lim b 0), .int .u64 (lim b 1), .int .u64 (lim b 2), .int .u64 (lim b 3)] 25)
  have A2 := Arr4.word (w.alloc (.cells #[.int .u64 (lim a 0), .int .u64 (lim a 1), .int .u64 (lim a 2), .int .u64 (lim a 3)] 25)) 25 b
  have B0 := ((Below.refl _ w).alloc (Nat.le_refl _) (.cells #[.int .u64 (lim a 0), .int .u64 (lim a 1), .int .u64 (lim a 2), .int .u64 (lim a 3)] 25)).alloc (by simp) (.cells #[.int .u64 (lim b 0), .int .u64 (lim b 1), .int .u64 (lim b 2), .int .u64 (lim b 3)] 25)
  rw [World.size_alloc] at A2
  refine (HJ.out _).mono ?_
  rintro e w1 ⟨rfl, hb1⟩
  have BB := B0.trans (hb1.mono B0.size)
  have hz : w.heap.size ≤ w1.heap.size := BB.size
  clear A1 A2 B0 hb1 HJ
  go_wp2
  go_ret
  exact ⟨rfl, by (repeat (first | exact BB | refine Below.setCell ?_ (by first | omega | (simp; done) | (simp; omega)) _ | refine Below.alloc ?_ (by first | omega | (simp; done) | (simp; omega)) _ | refine Below.drew ?_))⟩
end Go.Proofs.YtbbpmcebakckaaaGreatDoor

/- Worlds that have grown, but for one block. -/
namespace Go.Proofs.YtbbpmcebakckaaaGreatDoor
open Go Go.RowKit

theorem grown_of_below {w W : World} (h : Below w.heap.size w W) (row : Option Nat) : w.grownBy W row := ⟨h.os, h.tape, h.output, h.size, fun k hk _ => h.block k hk⟩
theorem grown_then_below {w A B : World} {row : Option Nat} (h : w.grownBy A row) (hb : Below A.heap.size A B) : w.grownBy B row :=
  ⟨hb.os.trans h.os, hb.tape.trans h.tape, hb.output.trans h.output, Nat.le_trans h.size hb.size, fun k hk hne => (hb.block k (Nat.lt_of_lt_of_le hk h.size)).trans (h.block k hk hne)⟩
theorem grown_set {w A : World} {S : Nat} (h : w.grownBy A (some S)) {p : Addr} (hp : p.block = S ∨ w.heap.size ≤ p.block) (u : Value) : w.grownBy (A.setCell p u) (some S) :=
  ⟨h.os, h.tape, h.output, by simpa [World.setCell] using h.size, fun k hk hne => (Below.heap_setCell A p u k (fun e => by
    rcases hp with hp | hp
    · exact hne (by rw [e, hp])
    · omega)).trans (h.block k hk hne)⟩
theorem grown_alloc {w A : World} {row : Option Nat} (h : w.grownBy A row) (o : Obj) : w.grownBy (A.alloc o) row :=
  ⟨h.os, h.tape, h.output, Nat.le_trans h.size (by simp), fun k hk hne => (Below.heap_alloc A o k (Nat.lt_of_lt_of_le hk h.size)).trans (h.block k hk hne)⟩
theorem grown_putObj {w A : World} {row : Option Nat} (h : w.grownBy A row) {l : Nat} (hl : w.heap.size ≤ l) (o : Obj) : w.grownBy (A.putObj l o) row :=
  ⟨h.os, h.tape, h.output, by simpa using h.size, fun k hk hne => (World.putObj_heap_other (by omega)).trans (h.block k hk hne)⟩

end Go.Proofs.YtbbpmcebakckaaaGreatDoor

/- A range over a function whose rounds are known by their number: the iterator's contract and the loop's law, told by how many rounds are over. Condition: the iterator's contract. -/
namespace Go.Proofs.YtbbpmcebakckaaaGreatDoor
open Go Go.RowKit

/-- The iterator's contract: round k is handed enc k; when all N are over, or one has said that there shall be no more, it returns. -/
def SeqN (F : Fence) (n : Nat) (P : Program) (g : Nat) (lb : Array Value) (enc : Nat → Array Value) (Kp : World → World → Prop) (N : Nat) (w : World) : Prop :=
  ∀ (l : Nat) (J Jx : Nat → World → Prop) (W : World), Below w.heap.size w W → AbidesFrom W.heap.size J → AbidesFrom W.heap.size Jx →
    (∀ k W1, k < N → J k W1 → YieldAt F (n - 1) P l (enc k) W1 fun e W' =>
      (e = .returned (.bool true) ∧ J (k + 1) W' ∧ Kp W1 W') ∨ (e = .returned (.bool false) ∧ Jx k W')) →
    J 0 W →
    CallsIn F n P g (#[.func (.yield l) #[] #[]] ++ lb) W fun e W' => (∃ v, e = .returned v) ∧ (J N W' ∨ ∃ k, k < N ∧ Jx k W')

/-- How a round may be left. -/
def roundN (B : Nat) (Kp : World → World → Prop) (I : Nat → World → Prop) (Ix : Code → Nat → World → Prop) (k : Nat) (W : World) : Exit → Act → World → Prop
  | .normal, _, W' => KeepsFrom B W W' ∧ Kp W W' ∧ I (k + 1) W'
  | .ret, _, W' => KeepsFrom B W W' ∧ Ix .ret k W'
  | .exit id, _, W' => KeepsFrom B W W' ∧ Ix (.exit id) k W'
  | .goto t, _, W' => KeepsFrom B W W' ∧ Ix (.goto t) k W'
  | .panic _, _, _ => False
  | .outgrown, _, _ => False

variable {F : Fence} {n : Nat} {P : Program}

theorem wpIn_rangeFunc_N {g : Operand} {ps : Array Tmp} {assign body : Code} {Q : Exit → Act → World → Prop} {a : Act} {w : World}
    (hro : F.round = none) (h1 : 1 ≤ n) {gf : Nat} {lb : Array Value} (hg : a.eval g = .func (.func gf) #[] lb) (hFg : F.fn gf) (eg : ∀ args w, (callFunc gf args).run P w = .ok (.enter gf args) w)
    {enc : Nat → Array Value} {Kp : World → World → Prop} {N : Nat} (hseq : SeqN F (n - 1) P gf lb enc Kp N w)
    (hKt : ∀ {A B C : World}, Kp A B → Kp B C → Kp A C) (hKb : ∀ (W : World) (l : Nat) (o o' : Obj), w.heap.size ≤ l → W.heap[l]? = some o → o.isCells = false → o.isWalk = false → Kp W (W.putObj l o')) (hps : ∀ k, k < N → (enc k).size = ps.size)
    (I : Nat → World → Prop) (Ix : Code → Nat → World → Prop) (hI : OwnFrom w.heap.size I) (hIx : ∀ c, OwnFrom w.heap.size (Ix c)) (h0 : I 0 w) (Ax : Nat → Act → World → Prop) (hAx : ∀ k a', OwnFrom w.heap.size (fun (_ : Unit) W => Ax k a' W))
    (hassign : ∀ (l k : Nat) (W : World) (K : Act → World → Prop), k < N → I k W → (∀ a' W', KeepsFrom w.heap.size W W' → Kp W W' → I k W' → Ax k a' W' → K a' W') →
      assign.wpIn (F.inRound l) (n - 1 - 1) P (Exit.then K (fun _ _ _ => False)) { tmps := (ps.zip (enc k)).foldl (fun t (p, v) => t.setIfInBounds p v) a.tmps, defers := [] } W)
    (hbody : ∀ (l k : Nat) (a' : Act) (W : World), w.heap.size ≤ l → (∃ r, W.heap[l]? = some (.loop r)) → k < N → I k W → Ax k a' W → body.wpIn (F.inRound l) (n - 1 - 1) P (roundN w.heap.size Kp I Ix k W) a' W)
    (hdone : ∀ (D : Nat) (W : World), w.heap.size ≤ D → I N W → W.heap[D]? = some (.deferred (some [])) → Q .normal { a with defers := { target := .collected D, args := #[] } :: a.defers } W)
    (hstop : ∀ (D : Nat) (c : Code) (k : Nat) (W : World), w.heap.size ≤ D → k < N → Ix c k W → W.heap[D]? = some (.deferred (some [])) → c.wpIn F n P Q { a with defers := { target := .collected D, args := #[] } :: a.defers } W) :
    (Code.rangeFunc g ps assign body).wpIn F n P Q a w := by
  refine wpIn_rangeFunc ?_
  intro fn hfn
  rw [hro]
  obtain ⟨rec, hrec⟩ : ∃ rec : LoopState → Option Code → Loop, rec = fun st pe => { state := st, pending := pe, fn, tmps := a.tmps, params := ps, assign, body, defers := w.heap.size } := ⟨_, rfl⟩
  obtain ⟨W1, hW1⟩ : ∃ W1, (w.alloc (.deferred (some []))).alloc (.loop (rec .ready none)) = W1 := ⟨_, rfl⟩
  have hL1 : W1.heap[w.heap.size + 1]? = some (.loop (rec .ready none)) := by
    rw [← hW1]; have := World.alloc_heap_new (w.alloc (.deferred (some []))) (.loop (rec .ready none)); rwa [World.size_alloc] at this
  have hK1 : W1.heap[w.heap.size]? = some (.deferred (some [])) := by
    rw [← hW1]; exact (Below.heap_alloc _ _ _ (by simp)).trans (World.alloc_heap_new w _)
  have hI1 : I 0 W1 := by rw [← hW1]; exact hI.alloc _ (hI.alloc _ h0)
  have hb1 : Below w.heap.size w W1 := by
    rw [← hW1]; exact ((Below.refl _ w).alloc (Nat.le_refl _) _).alloc (by simp) _
  refine ⟨w.heap.size + 1, [{ target := .collected w.heap.size, args := #[] }], W1, { target := .fn (.func gf) lb, args := #[.func (.yield (w.heap.size + 1)) #[] #[]] }, W1, gf,
    #[.func (.yield (w.heap.size + 1)) #[] #[]] ++ lb, W1, ?_, ?_, ?_, ?_, fun _ => h1, ?_⟩
  · rw [← hW1, hrec]; exact run_enterLoop_outer _ _ _ _ _
  · simp only [resolve, hg]
    simp [go_sem]
  · intro f' hf'; simp [Target.leads] at hf'; subst hf'; exact hFg
  · simp [invoke, go_sem, eg]
  · have hnw : ∀ {A B : World} {row : Option Nat}, (∀ r, row = some r → W1.heap.size ≤ r ∧ ∃ o : Obj, A.heap[r]? = some o ∧ o.isWalk = true) → (∀ r, row = some r → w.heap.size ≤ r ∧ ∃ o : Obj, A.heap[r]? = some o ∧ o.isCells = false) :=
      fun hr r e => by obtain ⟨hB, o, ho, hw⟩ := hr r e; exact ⟨by rw [← hW1] at hB; simp at hB; omega, o, ho, Obj.not_cells_of_walk hw⟩
    refine (hseq (w.heap.size + 1)
      (fun k W => I k W ∧ W.heap[w.heap.size + 1]? = some (.loop (rec .ready none)) ∧ W.heap[w.heap.size]? = some (.deferred (some [])))
      (fun k W => ∃ c, Ix c k W ∧ W.heap[w.heap.size + 1]? = some (.loop (rec .done (some c))) ∧ W.heap[w.heap.size]? = some (.deferred (some [])))
      W1 hb1
      (fun s A B row hs hg' hr => ⟨hI s A B row hs.1 hg' (hnw (B := B) hr), (grownBy_keeps hg' (fun r e => (hr r e).2) hs.2.1 rfl).trans hs.2.1, (grownBy_keeps hg' (fun r e => (hr r e).2) hs.2.2 rfl).trans hs.2.2⟩)
      (fun s A B row hs hg' hr => by
        obtain ⟨c, hc, hl, hk⟩ := hs
        exact ⟨c, hIx c s A B row hc hg' (hnw (B := B) hr), (grownBy_keeps hg' (fun r e => (hr r e).2) hl rfl).trans hl, (grownBy_keeps hg' (fun r e => (hr r e).2) hk rfl).trans hk⟩)
      ?_ ⟨hI1, hL1, hK1⟩).mono ?_
    · rintro k W hkN ⟨hi, hl, hk⟩
      have hlt : w.heap.size + 1 < W.heap.size := (Array.getElem?_eq_some_iff.1 hl).1
      have hy := run_yield (P := P) (args := enc k) hl (by rw [hrec]; exact hps k hkN)
      rw [hrec] at hy
      refine ⟨fn, _, assign, body, hy, roundIn_of_wpIn hfn (hassign _ k W _ hkN hi ?_)⟩
      clear hy
      intro a' Wa hkfa hkpa hia hax
      replace hl := hkfa.same _ _ (by omega) hl rfl
      replace hk := hkfa.same _ _ (Nat.le_refl _) hk rfl
      replace hlt : w.heap.size + 1 < Wa.heap.size := (Array.getElem?_eq_some_iff.1 hl).1
      refine ⟨_, run_beginRound hl (by rw [hrec]), ?_⟩
      have hl2 : (Wa.putObj (w.heap.size + 1) (.loop { rec .ready none with state := .busy })).heap[w.heap.size + 1]? = some (.loop { rec .ready none with state := .busy }) := World.putObj_heap_same hlt
      have hk2 : (Wa.putObj (w.heap.size + 1) (.loop { rec .ready none with state := .busy })).heap[w.heap.size]? = some (.deferred (some [])) := (World.putObj_heap_other (by omega)).trans hk
      have hw2 : Kp Wa (Wa.putObj (w.heap.size + 1) (.loop { rec .ready none with state := .busy })) := hKb _ _ _ _ (by omega) hl rfl rfl
      refine wpIn_mono (hbody _ k a' _ (by omega) ⟨_, hl2⟩ hkN (hI.putObj _ hia (by omega) hl rfl) ((hAx k a').putObj (s := ()) _ hax (by omega) hl rfl)) ?_
      have fin : ∀ (jump : Option Code) (W3 : World), KeepsFrom w.heap.size (Wa.putObj (w.heap.size + 1) (.loop { rec .ready none with state := .busy })) W3 →
          (Instr.endRound (w.heap.size + 1) jump).run P W3 = .ok (.bool jump.isNone) (W3.putObj (w.heap.size + 1) (.loop (rec (if jump.isNone then .ready else .done) jump))) ∧
          W3.heap[w.heap.size + 1]? = some (.loop { rec .ready none with state := .busy }) ∧
          (W3.putObj (w.heap.size + 1) (.loop (rec (if jump.isNone then .ready else .done) jump))).heap[w.heap.size + 1]? = some (.loop (rec (if jump.isNone then .ready else .done) jump)) ∧
          (W3.putObj (w.heap.size + 1) (.loop (rec (if jump.isNone then .ready else .done) jump))).heap[w.heap.size]? = some (.deferred (some [])) := fun jump W3 hk3 => by
        have hl3 := hk3.same _ _ (by omega) hl2 rfl
        have := run_endRound (P := P) jump hl3
        rw [hrec] at this ⊢
        exact ⟨this, by rw [hrec] at hl3; exact hl3, World.putObj_heap_same (Array.getElem?_eq_some_iff.1 hl3).1, (World.putObj_heap_other (by omega)).trans (hk3.same _ _ (Nat.le_refl _) hk2 rfl)⟩
      rintro e a3 W3 hp
      cases e with
      | normal =>
        obtain ⟨hk3, hkp3, hi3⟩ := hp
        obtain ⟨hr, hl3, hl4, hk4⟩ := fin none W3 hk3
        exact ⟨_, _, hr, .inl ⟨rfl, ⟨hI.putObj _ hi3 (by omega) hl3 rfl, hl4, hk4⟩, hKt hkpa (hKt (hKt hw2 hkp3) (hKb _ _ _ _ (by omega) hl3 rfl rfl))⟩⟩
      | ret =>
        obtain ⟨hk3, hi3⟩ := hp
        obtain ⟨hr, hl3, hl4, hk4⟩ := fin (some .ret) W3 hk3
        exact ⟨_, _, hr, .inr ⟨rfl, .ret, (hIx _).putObj _ hi3 (by omega) hl3 rfl, hl4, hk4⟩⟩
      | exit id =>
        obtain ⟨hk3, hi3⟩ := hp
        obtain ⟨hr, hl3, hl4, hk4⟩ := fin (some (.exit id)) W3 hk3
        exact ⟨_, _, hr, .inr ⟨rfl, .exit id, (hIx _).putObj _ hi3 (by omega) hl3 rfl, hl4, hk4⟩⟩
      | goto t =>
        obtain ⟨hk3, hi3⟩ := hp
        obtain ⟨hr, hl3, hl4, hk4⟩ := fin (some (.goto t)) W3 hk3
        exact ⟨_, _, hr, .inr ⟨rfl, .goto t, (hIx _).putObj _ hi3 (by omega) hl3 rfl, hl4, hk4⟩⟩
      | panic ch => exact hp.elim
      | outgrown => exact hp.elim
    · rintro e W2 ⟨⟨v, rfl⟩, (⟨hi, hl, hk⟩ | ⟨k, hkN, c, hi, hl, hk⟩)⟩
      · exact ⟨none, _, by have := run_endLoop (P := P) hl (by rw [hrec]; simp); rw [hrec] at this; exact this, hdone _ _ (Nat.le_refl _) (hI.putObj _ hi (by omega) hl rfl) ((World.putObj_heap_other (by omega)).trans hk)⟩
      · exact ⟨some c, _, by have := run_endLoop (P := P) hl (by rw [hrec]; simp); rw [hrec] at this; exact this, hstop _ c k _ (Nat.le_refl _) hkN ((hIx c).putObj _ hi (by omega) hl rfl) ((World.putObj_heap_other (by omega)).trans hk)⟩

/-- The same where the assignment to the loop's left sides makes nothing. -/
theorem wpIn_rangeFunc_N1 {g : Operand} {ps : Array Tmp} {assign body : Code} {Q : Exit → Act → World → Prop} {a : Act} {w : World}
    (hro : F.round = none) (h1 : 1 ≤ n) {gf : Nat} {lb : Array Value} (hg : a.eval g = .func (.func gf) #[] lb) (hFg : F.fn gf) (eg : ∀ args w, (callFunc gf args).run P w = .ok (.enter gf args) w)
    {enc : Nat → Array Value} {Kp : World → World → Prop} {N : Nat} (hseq : SeqN F (n - 1) P gf lb enc Kp N w)
    (hKt : ∀ {A B C : World}, Kp A B → Kp B C → Kp A C) (hKr : ∀ W, Kp W W) (hKb : ∀ (W : World) (l : Nat) (o o' : Obj), w.heap.size ≤ l → W.heap[l]? = some o → o.isCells = false → o.isWalk = false → Kp W (W.putObj l o')) (hps : ∀ k, k < N → (enc k).size = ps.size)
    (I : Nat → World → Prop) (Ix : Code → Nat → World → Prop) (hI : OwnFrom w.heap.size I) (hIx : ∀ c, OwnFrom w.heap.size (Ix c)) (h0 : I 0 w) (a₁ : Nat → Act)
    (hassign : ∀ (l k : Nat) (W : World) (K : Act → World → Prop), k < N → K (a₁ k) W →
      assign.wpIn (F.inRound l) (n - 1 - 1) P (Exit.then K (fun _ _ _ => False)) { tmps := (ps.zip (enc k)).foldl (fun t (p, v) => t.setIfInBounds p v) a.tmps, defers := [] } W)
    (hbody : ∀ (l k : Nat) (W : World), w.heap.size ≤ l → k < N → I k W → body.wpIn (F.inRound l) (n - 1 - 1) P (roundN w.heap.size Kp I Ix k W) (a₁ k) W)
    (hdone : ∀ (D : Nat) (W : World), w.heap.size ≤ D → I N W → W.heap[D]? = some (.deferred (some [])) → Q .normal { a with defers := { target := .collected D, args := #[] } :: a.defers } W)
    (hstop : ∀ (D : Nat) (c : Code) (k : Nat) (W : World), w.heap.size ≤ D → k < N → Ix c k W → W.heap[D]? = some (.deferred (some [])) → c.wpIn F n P Q { a with defers := { target := .collected D, args := #[] } :: a.defers } W) :
    (Code.rangeFunc g ps assign body).wpIn F n P Q a w :=
  wpIn_rangeFunc_N hro h1 hg hFg eg hseq hKt hKb hps I Ix hI hIx h0 (fun k a' _ => a' = a₁ k) (fun _ _ _ _ _ _ hs _ _ => hs)
    (fun l k W K hk hi hK => hassign l k W K hk (hK _ _ (KeepsFrom.refl _ _) (hKr W) hi rfl)) (fun l k a' W hl _ hk hi e => by subst e; exact hbody l k W hl hk hi) hdone hstop
end Go.Proofs.YtbbpmcebakckaaaGreatDoor

/- The iterator over a word's four parts, told by the number of rounds. Condition: the pointer leads to an array of four numbers that the loop's body leaves alone. -/
namespace Go.Proofs.YtbbpmcebakckaaaGreatDoor
open Go Go.RowKit Go.Shelf
attribute [local go_sem] Oper.semAt_some

set_option maxRecDepth 100000 in
set_option maxHeartbeats 2000000 in
theorem parts_seq (n : Nat) (hn : 1 ≤ n) (Bs b : Nat) (z : Nat → Int) (w : World) (hBs : Bs < w.heap.size) (hb : b < w.heap.size)
    (hcB : w.cell? ⟨Bs, 0, none⟩ = some (.pointer (some ⟨b, 0, none⟩))) (hc : ∀ j, j < 4 → w.cell? ⟨b, j, none⟩ = some (.int .u64 (z j))) :
    SeqN Fence.wide n Tryz.prog 65 #[.pointer (some ⟨Bs, 0, none⟩)] (fun k => #[.int .i64 (k : Int), .int .u64 (z k)]) (KeepsAt [b, Bs]) 4 w := by
  intro l J Jx W hW _ _ hY h0
  have hBs' := (hW.cell (p := ⟨Bs, 0, none⟩) hBs).trans hcB
  have hc' : ∀ j, j < 4 → W.cell? ⟨b, j, none⟩ = some (.int .u64 (z j)) := fun j hj => (hW.cell (p := ⟨b, j, none⟩) hb).trans (hc j hj)
  clear hcB hc
  refine callsIn_of_wp Tryz.func65 rfl trivial ?_ rfl
  simp only [Tryz.ntmps65, List.size_toArray, List.length_cons, List.length_nil, Nat.reduceAdd, Nat.reduceSub, Array.replicate_succ, Array.replicate_zero, List.push_toArray, List.append_toArray, List.nil_append, List.cons_append]
  gi_wp2
  gi_loopw [4] (fun i wr => ∃ k : Nat, k ≤ 4 ∧ i = .int .i64 k ∧ J k wr ∧ KeepsAt [b, Bs] W wr)
    (fun i _ => 4 - (intOf i).toNat)
  case atStart => exact ⟨0, Nat.zero_le _, rfl, h0, KeepsAt.refl _ _⟩
  case round =>
    obtain ⟨k, hk, rfl, hJs, hnx⟩ := hrel
    by_cases hlt : k < 4
    · obtain ⟨fn, tmps, assign, body, hy, hR⟩ := hY k wr hlt hJs
      have hcx : wr.cell? ⟨b, k, none⟩ = some (.int .u64 (z k)) := (hnx.cell (p := ⟨b, k, none⟩) (by simp)).trans (hc' k hlt)
      have hbx : wr.cell? ⟨Bs, 0, none⟩ = some (.pointer (some ⟨b, 0, none⟩)) := (hnx.cell (p := ⟨Bs, 0, none⟩) (by simp)).trans hBs'
      clear hc' hBs'
      gi_wp2
      refine hR.mono ?_
      rintro e W3 (⟨rfl, hJ3, hk3⟩ | ⟨rfl, hJx3⟩)
      · gi_wp2
        go_roundw
        case rel => exact ⟨k + 1, by omega, by simp, hJ3, hnx.trans hk3⟩
        case measure => simp [intOf]; omega
      · gi_wp2
        refine bodyPost_ret (results_none rfl _ _ _) rfl ?_
        exact ⟨⟨_, rfl⟩, .inr ⟨k, hlt, hJx3⟩⟩
    · obtain rfl : k = 4 := by omega
      gi_wp2
      go_end0
      exact ⟨⟨_, rfl⟩, .inl hJs⟩
end Go.Proofs.YtbbpmcebakckaaaGreatDoor

/- Of, Int. For every number and word. -/
namespace Go.Proofs.YtbbpmcebakckaaaGreatDoor
open Go Go.RowKit Go.Shelf
attribute [local go_sem] Oper.semAt_some Grows wide_fn

/-- A number of Go's int. -/
def I64 (n : Int) : Prop := -9223372036854775808 ≤ n ∧ n ≤ 9223372036854775807
/-- The number of an int's word. -/
def ofN (n : Int) : Nat := if n < 0 then (115792089237316195423570985008687907853269984665640564039457584007913129639936 + n).toNat else n.toNat
theorem ofN_lt (n : Int) (h : I64 n) : W256 (ofN n) := by unfold W256 ofN I64 at *; split <;> omega
theorem of_neg (n : Int) (h : I64 n) (hn : n < 0) : lim (ofN n) 0 = 18446744073709551616 + n ∧ lim (ofN n) 1 = 18446744073709551615 ∧ lim (ofN n) 2 = 18446744073709551615 ∧ lim (ofN n) 3 = 18446744073709551615 := by
  unfold I64 at h
  refine lim_num (fun k => if k = 0 then 18446744073709551616 + n else 18446744073709551615) _ ?_ ?_ ?_ ?_ ?_
  · unfold U64; simp; omega
  · unfold U64; simp
  · unfold U64; simp
  · unfold U64; simp
  · unfold num ofN; rw [if_pos hn]; simp; omega
theorem of_pos (n : Int) (h : I64 n) (hn : ¬ n < 0) : lim (ofN n) 0 = n ∧ lim (ofN n) 1 = 0 ∧ lim (ofN n) 2 = 0 ∧ lim (ofN n) 3 = 0 := by
  unfold I64 at h
  refine lim_num (fun k => if k = 0 then n else 0) _ ?_ ?_ ?_ ?_ ?_
  · unfold U64; simp; omega
  · unfold U64; simp
  · unfold U64; simp
  · unfold U64; simp
  · unfold num ofN; rw [if_neg hn]; simp; omega

theorem of_wrap (n : Int) (h : I64 n) : lim (ofN n) 0 = IntKind.u64.wrap n ∧ lim (ofN n) 1 = IntKind.u64.wrap (n / 9223372036854775808) ∧ lim (ofN n) 2 = IntKind.u64.wrap (n / 9223372036854775808) ∧ lim (ofN n) 3 = IntKind.u64.wrap (n / 9223372036854775808) := by
  by_cases hn : n < 0
  · obtain ⟨h0, h1, h2, h3⟩ := of_neg n h hn
    rw [h0, h1, h2, h3]
    unfold I64 at h
    simp only [IntKind.wrap_u64]
    refine ⟨?_, ?_, ?_, ?_⟩ <;> omega
  · obtain ⟨h0, h1, h2, h3⟩ := of_pos n h hn
    rw [h0, h1, h2, h3]
    unfold I64 at h
    simp only [IntKind.wrap_u64]
    refine ⟨?_, ?_, ?_, ?_⟩ <;> omega

set_option maxHeartbeats 1000000 in
theorem of_ret (n : Int) (h : I64 n) : Ret Tryz.prog 83 #[.int .i64 n] (wv (ofN n)) := by
  intro w
  rw [wv_of (of_wrap n h)]
  go_enter Tryz.func83, Tryz.ntmps83
  go_wp2
  exact bodyPost_ret (results_word rfl rfl (Arr4.new w _ _ _ _ _)) rfl ⟨rfl, (Below.refl _ _).alloc (Nat.le_refl _) _⟩

/-- The greatest number that Int tells. -/
def maxI : Nat := 4611686018427387903
theorem maxI_lim : lim maxI 0 = 4611686018427387903 ∧ lim maxI 1 = 0 ∧ lim maxI 2 = 0 ∧ lim maxI 3 = 0 := ⟨rfl, rfl, rfl, rfl⟩
theorem maxI_lt : W256 maxI := by unfold W256 maxI; omega
def intV (a : Nat) : Value := if a ≤ maxI then .tuple #[.int .i64 (a : Int), .bool true] else .tuple #[.int .i64 0, .bool false]

set_option maxRecDepth 100000 in
set_option maxHeartbeats 1000000 in
theorem int_ret (a : Nat) (ha : W256 a) : Ret Tryz.prog 97 #[wv a] (intV a) := by
  intro w
  have hc := cmp_ret a maxI ha maxI_lt
  rw [wv_of maxI_lim] at hc
  have A0 := Arr4.word w 25 a
  by_cases hle : a ≤ maxI
  · have e0 : wrap64 (lim a 0) = (a : Int) := by
      have : lim a 0 = ((a % 18446744073709551616 : Nat) : Int) := rfl
      rw [this]
      unfold wrap64
      unfold maxI at hle
      omega
    have hv : intV a = .tuple #[.int .i64 (wrap64 (lim a 0)), .bool true] := by unfold intV; rw [if_pos hle, e0]
    have hw : wcmp a maxI ≤ 0 := by unfold wcmp; split <;> (try split) <;> omega
    rw [hv]
    have HC := Lib.hid hc
    generalize wcmp a maxI = c at *
    unfold wv at HC ⊢
    clear hc e0 hv hle ha
    go_enter Tryz.func97, Tryz.ntmps97
    go_wp2_with fail
    refine (HC.out _).mono ?_
    rintro e w1 ⟨rfl, hb1⟩
    have hx := (Arr4.below A0 hb1 (by simp)).cell (j := 0) (by omega)
    have BB := ((Below.refl _ w).alloc (Nat.le_refl _) (.cells #[.int .u64 (lim a 0), .int .u64 (lim a 1), .int .u64 (lim a 2), .int .u64 (lim a 3)] 25)).trans (hb1.mono (by simp))
    clear hb1 A0
    go_wp2
    go_ret2
    exact ⟨rfl, BB⟩
  · have hv : intV a = .tuple #[.int .i64 0, .bool false] := by unfold intV; rw [if_neg hle]
    have hw : 0 < wcmp a maxI := by unfold wcmp; rw [if_neg (by omega), if_pos (by omega)]; omega
    rw [hv]
    have HC := Lib.hid hc
    generalize wcmp a maxI = c at *
    unfold wv at HC ⊢
    clear hc hv hle ha
    go_enter Tryz.func97, Tryz.ntmps97
    go_wp2_with fail
    refine (HC.out _).mono ?_
    rintro e w1 ⟨rfl, hb1⟩
    have BB := ((Below.refl _ w).alloc (Nat.le_refl _) (.cells #[.int .u64 (lim a 0), .int .u64 (lim a 1), .int .u64 (lim a 2), .int .u64 (lim a 3)] 25)).trans (hb1.mono (by simp))
    clear hb1 A0
    go_wp2
    go_ret2
    exact ⟨rfl, BB⟩
end Go.Proofs.YtbbpmcebakckaaaGreatDoor

/- What the walks of the laws share: blocks of known cells, '==' of words, regions of calls with contracts. -/
namespace Go.Proofs.YtbbpmcebakckaaaGreatDoor
open Go Go.RowKit

/-- Four parts, as a value. -/
abbrev W4 (a b c d : Int) : Value := .agg #[.int .u64 a, .int .u64 b, .int .u64 c, .int .u64 d]

theorem eq4 (a b c d a' b' c' d' : Int) (w : World) : (Op.equalIn 10000 25 (.agg #[.int .u64 a, .int .u64 b, .int .u64 c, .int .u64 d]) (.agg #[.int .u64 a', .int .u64 b', .int .u64 c', .int .u64 d'])).run Tryz.prog w = .ok (a == a' && b == b' && c == c' && d == d') w := by
  have u3 := Tryz.underlying23
  have a3 := Tryz.isAgg23
  have z3 := Tryz.sizeOf23
  rw [show (10000 : Nat) = 9999 + 1 from rfl, Op.equalIn]
  simp only [Sem.run_bind, run_underlying Tryz.underlying25, Result.andThen_ok]
  simp only [Std.Legacy.Range.forIn_eq_forIn_range', Std.Legacy.Range.size, Nat.sub_zero, Nat.add_sub_cancel, Nat.div_one, List.range'_succ, List.range'_zero, List.forIn_cons, List.forIn_nil]
  go_simp
  by_cases h1 : a = a' <;> by_cases h2 : b = b' <;> by_cases h3 : c = c' <;> by_cases h4 : d = d' <;> simp [h1, h2, h3, h4]

/-- A block of known cells. -/
def Has (W : World) (B : Nat) (t : TypeId) (cs : Array Value) : Prop := W.heap[B]? = some (.cells cs t (0, 0))
theorem Has.lt {W : World} {B : Nat} {t : TypeId} {cs : Array Value} (h : Has W B t cs) : B < W.heap.size := (Array.getElem?_eq_some_iff.1 h).1
theorem Has.cell {W : World} {B : Nat} {t : TypeId} {cs : Array Value} (h : Has W B t cs) (j : Nat) (v : Value) (hj : cs[j]? = some v) : W.cell? ⟨B, j, none⟩ = some v := by
  unfold Has at h
  simp [World.cell?, h, hj]
theorem Has.frozen {W : World} {B : Nat} {t : TypeId} {cs : Array Value} (h : Has W B t cs) (j : Nat) : W.frozen? ⟨B, j, none⟩ = false := by
  unfold Has at h
  simp [World.frozen?, h]
theorem Has.new (W : World) (t : TypeId) (cs : Array Value) : Has (W.alloc (.cells cs t)) W.heap.size t cs := World.alloc_heap_new W _
theorem Has.below {W W' : World} {B n : Nat} {t : TypeId} {cs : Array Value} (h : Has W B t cs) (hb : Below n W W') (hn : B < n) : Has W' B t cs := (hb.block B hn).trans h
theorem Has.later {W W' : World} {B : Nat} {t : TypeId} {cs : Array Value} (h : Has W B t cs) (hb : Below W.heap.size W W') : Has W' B t cs := h.below hb h.lt
theorem Has.alloc {W : World} {B : Nat} {t : TypeId} {cs : Array Value} (h : Has W B t cs) (o : Obj) : Has (W.alloc o) B t cs := h.later ((Below.refl _ W).alloc (Nat.le_refl _) o)
theorem Has.other {W : World} {B : Nat} {t : TypeId} {cs : Array Value} (h : Has W B t cs) {p : Addr} (hne : B ≠ p.block) (v : Value) : Has (W.setCell p v) B t cs := (Below.heap_setCell W p v B hne).trans h
theorem Has.set {W : World} {B : Nat} {t : TypeId} {cs : Array Value} (h : Has W B t cs) (k : Nat) (v : Value) : Has (W.setCell ⟨B, k, none⟩ v) B t (cs.setIfInBounds k v) := by
  obtain ⟨hlt, he⟩ := Array.getElem?_eq_some_iff.1 h
  show (W.heap.modify B _)[B]? = _
  rw [Array.getElem?_eq_getElem (by rw [Array.size_modify]; exact hlt), Array.getElem_modify_self, he]
  rfl

/-- A region of quiet operations, for a list of them. -/
theorem wp_region_quietL {P : Program} {C : World → Prop} {id : Nat} {Q : Exit → Act → World → Prop} {a : Act} {w : World} {l : List Oper} (hm : P.follows .mixedOrders = true) (hB : Region.lexB .any l.toArray = true)
    (hC : C { w with drawn := w.drawn + 1 }) (h : wpQuiet P l.toArray C (fun a' => ∀ w', C w' → Q .normal a' w') l a) : (Code.region id l.toArray true).wp P Q a w :=
  wp_region_quiet (C := C) hm hB hC (by simpa using h)

/-- The one cells, or the other ones. -/
def cellsIf (b : Bool) (x y : Array Value) : Array Value := if b = true then x else y
theorem cellsIf_true (x y : Array Value) : cellsIf true x y = x := rfl
theorem cellsIf_false (x y : Array Value) : cellsIf false x y = y := rfl

theorem Ret.of_eq {P : Program} {f : FuncId} {args args' : Array Value} {v v' : Value} (h : Ret P f args v) (ha : args = args') (hv : v = v') : Ret P f args' v' := by subst ha; subst hv; exact h
end Go.Proofs.YtbbpmcebakckaaaGreatDoor
