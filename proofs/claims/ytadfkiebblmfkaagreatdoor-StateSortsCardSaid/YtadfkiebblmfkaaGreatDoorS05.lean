import Derived.Test.YtadfkiebblmfkaaGreatDoorS04
import Derived.Test.YtadfkiebblmfkaaGreatDoorS01
import Derived.Shelf.Spec.BitsCarry
import Derived.Shelf.Bits.Mul64
import Derived.Lib.Mul64
import Derived.Test.YtadfkiebblmfkaaGreatDoorS02
import Derived.RangeFuncRecord
import Derived.RangeFuncNested
import Derived.RangeFuncBound
import Derived.RangeFuncCalls
import Derived.RangeFuncLeaves
import Derived.RangeFuncBox
/- Sums, differences and the order of words. For every word. -/
namespace Go.Proofs.YtadfkiebblmfkaaGreatDoor
open Go Go.RowKit Go.Shelf
attribute [local go_sem] Oper.semAt_some Grows wide_fn

/-- A word, by its number. -/
def wv (n : Nat) : Value := .agg #[.int .u64 (lim n 0), .int .u64 (lim n 1), .int .u64 (lim n 2), .int .u64 (lim n 3)]
theorem wv_of {n : Nat} {x0 x1 x2 x3 : Int} (h : lim n 0 = x0 ∧ lim n 1 = x1 ∧ lim n 2 = x2 ∧ lim n 3 = x3) : wv n = .agg #[.int .u64 x0, .int .u64 x1, .int .u64 x2, .int .u64 x3] := by
  obtain ⟨rfl, rfl, rfl, rfl⟩ := h; rfl

/-- What was there before reads as it did. -/
theorem bcell {W w1 : World} (hb : Below W.heap.size W w1) : (∀ b o, b < W.heap.size → w1.cell? ⟨b, o, none⟩ = W.cell? ⟨b, o, none⟩) ∧ (∀ b o, b < W.heap.size → w1.frozen? ⟨b, o, none⟩ = W.frozen? ⟨b, o, none⟩) :=
  ⟨fun b o h => hb.cell (p := ⟨b, o, none⟩) h, fun b o h => hb.frozen (p := ⟨b, o, none⟩) h⟩

/-- A new block that holds a word. -/
theorem Arr4.word (W : World) (t : TypeId) (n : Nat) : Arr4 (W.alloc (.cells #[.int .u64 (lim n 0), .int .u64 (lim n 1), .int .u64 (lim n 2), .int .u64 (lim n 3)] t)) W.heap.size t (lim n) := World.alloc_heap_new W _

theorem Arr4.store {W : World} {B : Nat} {t : TypeId} {m : Nat → Int} (h : Arr4 W B t m) (m' : Nat → Int) :
    Arr4 ((((W.setCell ⟨B, 0, none⟩ (.int .u64 (m' 0))).setCell ⟨B, 1, none⟩ (.int .u64 (m' 1))).setCell ⟨B, 2, none⟩ (.int .u64 (m' 2))).setCell ⟨B, 3, none⟩ (.int .u64 (m' 3))) B t m' := by
  have h := Arr4.set (Arr4.set (Arr4.set (Arr4.set h (k := 0) (by omega) (m' 0)) (k := 1) (by omega) (m' 1)) (k := 2) (by omega) (m' 2)) (k := 3) (by omega) (m' 3)
  exact h

/-- A word handed back out of its variable. -/
theorem results_word {fn : Func} {t : Tmp} {tmps : Array Value} {W : World} {B : Nat} {m : Nat → Int} (h : fn.results = #[ResultVar.cell t 28]) (ht : tmps.getD t undef = .pointer (some ⟨B, 0, none⟩)) (hA : Arr4 W B 28 m) :
    (results fn tmps).run Tryz.prog W = .ok (.agg #[.int .u64 (m 0), .int .u64 (m 1), .int .u64 (m 2), .int .u64 (m 3)]) W := by
  have e0 := hA.cell (j := 0) (by omega)
  have e1 := hA.cell (j := 1) (by omega)
  have e2 := hA.cell (j := 2) (by omega)
  have e3 := hA.cell (j := 3) (by omega)
  simp at ht
  simp [results, h, ht, go_sem, e0, e1, e2, e3]


/-! ### The order -/
set_option maxHeartbeats 1000000 in
theorem compare_ret (x y : Int) : Ret Tryz.prog 165 #[.int .u64 x, .int .u64 y] (.int .i64 (cmpO 0 x y)) := by
  intro w
  by_cases h1 : x < y
  · have e : cmpO 0 x y = -1 := by unfold cmpO; rw [if_pos h1]
    rw [e]; clear e
    go_enter Tryz.func165, Tryz.ntmps165
    go_wp2
    go_ret
    exact ⟨rfl, Below.refl _ _⟩
  · by_cases h2 : y < x
    · have e : cmpO 0 x y = 1 := by unfold cmpO; rw [if_neg h1, if_pos h2]
      rw [e]; clear e
      go_enter Tryz.func165, Tryz.ntmps165
      go_wp2
      go_ret
      exact ⟨rfl, Below.refl _ _⟩
    · have e : cmpO 0 x y = 0 := by unfold cmpO; rw [if_neg h1, if_neg h2]
      rw [e]; clear e
      go_enter Tryz.func165, Tryz.ntmps165
      go_wp2
      go_ret
      exact ⟨rfl, Below.refl _ _⟩

/-- The first one that is not 0, of two. -/
def orOf (a b : Int) : Int := if a = 0 then b else a
set_option maxHeartbeats 1000000 in
theorem or_int (a b : Int) (g cap : Nat) (w : World) (h0 : w.cell? ⟨g, 0, none⟩ = some (.int .i64 a)) (h1 : w.cell? ⟨g, 1, none⟩ = some (.int .i64 b)) :
    Calls Tryz.prog 164 #[.slice (some ⟨g, 0, none⟩) 2 cap] w fun e w' => e = .returned (.int .i64 (orOf a b)) ∧ w = w' := by
  have hz : Hid (a = 0 → orOf a b = b) := fun h => by unfold orOf; rw [if_pos h]
  have hn : Hid (a ≠ 0 → orOf a b = a) := fun h => by unfold orOf; rw [if_neg h]
  go_enter Tryz.func164, Tryz.ntmps164
  go_wp2
  go_loop [8] (fun i => ∃ k : Nat, k ≤ 2 ∧ i = .int .i64 k ∧ (0 < k → a = 0) ∧ (1 < k → b = 0)) (fun i => 2 - (intOf i).toNat)
  case atStart => exact ⟨0, by omega, rfl, fun h => by omega, fun h => by omega⟩
  case round =>
    obtain ⟨k, hk, rfl, ha, hb⟩ := hrel
    by_cases k0 : k = 0
    · subst k0
      clear ha hb
      by_cases e : a = 0
      · have et : (a != 0) = false := by simp [e]
        have HE := Lib.hid e
        clear e
        go_wp2
        go_round
        case rel => exact ⟨1, by omega, by simp, fun _ => HE.out, fun h => by omega⟩
        case measure => simp [intOf]
      · have et : (a != 0) = true := by simp [e]
        have HE := Lib.hid e
        clear e
        go_wp2
        go_ret
        exact ⟨by rw [hn.out HE.out]; rfl, rfl⟩
    · by_cases k1 : k = 1
      · subst k1
        have HA : Hid (a = 0) := ha (by omega)
        clear ha hb
        by_cases e : b = 0
        · have et : (b != 0) = false := by simp [e]
          have HE := Lib.hid e
          clear e
          go_wp2
          go_round
          case rel => exact ⟨2, by omega, by simp, fun _ => HA.out, fun _ => HE.out⟩
          case measure => simp [intOf]
        · have et : (b != 0) = true := by simp [e]
          have HE := Lib.hid e
          clear e
          go_wp2
          go_ret
          exact ⟨by rw [hz.out HA.out]; rfl, rfl⟩
      · obtain rfl : k = 2 := by omega
        have HA : Hid (a = 0) := ha (by omega)
        have HB : Hid (b = 0) := hb (by omega)
        clear ha hb
        go_wp2
        go_ret
        exact ⟨by rw [hz.out HA.out, HB.out]; rfl, rfl⟩

set_option maxHeartbeats 1000000 in
theorem pair_ret (x y l : Int) : Ret Tryz.prog 163 #[.int .u64 x, .int .u64 y, .int .i64 l] (.tuple #[.int .u64 0, .int .i64 (orOf (cmpO 0 x y) l)]) := by
  intro w
  go_enter Tryz.func163, Tryz.ntmps163
  go_wp2_with fail
  refine (compare_ret x y w).mono ?_
  rintro e w1 ⟨rfl, hb1⟩
  go_wp2_with fail
  refine (or_int (cmpO 0 x y) l _ _ _ (by go_simp) (by go_simp)).mono ?_
  rintro e w2 ⟨rfl, rfl⟩
  go_wp2
  go_ret2
  exact ⟨rfl, hb1.alloc hb1.size _⟩

theorem orOf_cmp (x y l : Int) : orOf (cmpO 0 x y) l = cmpO l x y := by
  unfold orOf cmpO
  by_cases h1 : x < y
  · simp [h1]
  · by_cases h2 : y < x
    · simp [h1, h2]
    · simp [h1, h2]

set_option maxRecDepth 100000 in
set_option maxHeartbeats 1000000 in
theorem cmp_ret (a b : Nat) (ha : W256 a) (hb : W256 b) : Ret Tryz.prog 158 #[wv a, wv b] (.int .i64 (wcmp a b)) := by
  intro w
  have hJ := fun W => join_int (lim a) (lim b) (fun _ _ => 0) (cmpN a b) 0 (fun _ => True) trivial (fun _ _ _ _ => trivial)
    (fun k _ l _ => by have h := pair_ret (lim a k) (lim b k) l; rw [orOf_cmp] at h; exact h) W
  have hP := cmp_parts a b ha hb
  have hL : leftOf (cmpN a b) 0 [0, 1, 2, 3] = wcmp a b := hP
  rw [hL] at hJ
  have HJ := Lib.hid hJ
  clear hJ hP hL
  unfold wv
  go_enter Tryz.func158, Tryz.ntmps158
  go_wp2_with fail
  have A1 := (Arr4.word w 28 a).alloc (.cells #[.int .u64 (lim b 0), .int .u64 (lim b 1), .int .u64 (lim b 2), .int .u64 (lim b 3)] 28)
  have A2 := Arr4.word (w.alloc (.cells #[.int .u64 (lim a 0), .int .u64 (lim a 1), .int .u64 (lim a 2), .int .u64 (lim a 3)] 28)) 28 b
  have B0 := ((Below.refl _ w).alloc (Nat.le_refl _) (.cells #[.int .u64 (lim a 0), .int .u64 (lim a 1), .int .u64 (lim a 2), .int .u64 (lim a 3)] 28)).alloc (by simp) (.cells #[.int .u64 (lim b 0), .int .u64 (lim b 1), .int .u64 (lim b 2), .int .u64 (lim b 3)] 28)
  rw [World.size_alloc] at A2
  refine (HJ.out _).mono ?_
  rintro e w1 ⟨rfl, hb1⟩
  have BB := B0.trans (hb1.mono B0.size)
  have hz : w.heap.size ≤ w1.heap.size := BB.size
  clear A1 A2 B0 hb1 HJ
  go_wp2
  go_ret
  exact ⟨rfl, by (repeat (first | exact BB | refine Below.setCell ?_ (by first | omega | (simp; done) | (simp; omega)) _ | refine Below.alloc ?_ (by first | omega | (simp; done) | (simp; omega)) _ | refine Below.drew ?_))⟩
end Go.Proofs.YtadfkiebblmfkaaGreatDoor

/- Products of words: two parts, a row, and all rows. For every word. -/
namespace Go.Proofs.YtadfkiebblmfkaaGreatDoor
open Go Go.RowKit Go.Shelf
attribute [local go_sem] Oper.semAt_some Grows wide_fn

def tpLo (x y p q : Int) : Int := (x * y + p + q) % 18446744073709551616
def tpHi (x y p q : Int) : Int := (x * y + p + q) / 18446744073709551616
theorem tp_bound (x y p q : Int) (hx : U64 x) (hy : U64 y) (hp : U64 p) (hq : U64 q) : U64 (tpLo x y p q) ∧ U64 (tpHi x y p q) := by
  unfold U64 tpLo tpHi at *
  have h1 : 0 ≤ x * y := Int.mul_nonneg hx.1 hy.1
  have h2 : x * y ≤ 18446744073709551615 * 18446744073709551615 := Int.mul_le_mul (by omega) (by omega) hy.1 (by omega)
  generalize x * y = t at *
  omega
/-- Two carries added to the high part do not go beyond it. -/
theorem tp_join (x y p q : Int) (hx : U64 x) (hy : U64 y) (hp : U64 p) (_hq : U64 q) :
    ((x * y % 18446744073709551616 + p) % 18446744073709551616 + q) % 18446744073709551616 = tpLo x y p q ∧
    x * y / 18446744073709551616 + (x * y % 18446744073709551616 + p) / 18446744073709551616 + ((x * y % 18446744073709551616 + p) % 18446744073709551616 + q) / 18446744073709551616 = tpHi x y p q ∧
    U64 (x * y / 18446744073709551616 + (x * y % 18446744073709551616 + p) / 18446744073709551616) ∧ U64 (x * y % 18446744073709551616) ∧ U64 ((x * y % 18446744073709551616 + p) % 18446744073709551616) ∧ U64 (x * y / 18446744073709551616) := by
  unfold U64 tpLo tpHi at *
  have h1 : 0 ≤ x * y := Int.mul_nonneg hx.1 hy.1
  have h2 : x * y ≤ 18446744073709551615 * 18446744073709551615 := Int.mul_le_mul (by omega) (by omega) hy.1 (by omega)
  generalize x * y = t at *
  omega

end Go.Proofs.YtadfkiebblmfkaaGreatDoor

/- Worlds that have grown, but for one block. -/
namespace Go.Proofs.YtadfkiebblmfkaaGreatDoor
open Go Go.RowKit

theorem grown_of_below {w W : World} (h : Below w.heap.size w W) (row : Option Nat) : w.grownBy W row := ⟨h.os, h.tape, h.output, h.size, fun k hk _ => h.block k hk⟩
theorem grown_then_below {w A B : World} {row : Option Nat} (h : w.grownBy A row) (hb : Below A.heap.size A B) : w.grownBy B row :=
  ⟨hb.os.trans h.os, hb.tape.trans h.tape, hb.output.trans h.output, Nat.le_trans h.size hb.size, fun k hk hne => (hb.block k (Nat.lt_of_lt_of_le hk h.size)).trans (h.block k hk hne)⟩
theorem grown_set {w A : World} {S : Nat} (h : w.grownBy A (some S)) {p : Addr} (hp : p.block = S ∨ w.heap.size ≤ p.block) (u : Value) : w.grownBy (A.setCell p u) (some S) :=
  ⟨h.os, h.tape, h.output, by simpa [World.setCell] using h.size, fun k hk hne => (Below.heap_setCell A p u k (fun e => by
    rcases hp with hp | hp
    · exact hne (by rw [e, hp])
    · omega)).trans (h.block k hk hne)⟩
theorem grown_alloc {w A : World} {row : Option Nat} (h : w.grownBy A row) (o : Obj) : w.grownBy (A.alloc o) row :=
  ⟨h.os, h.tape, h.output, Nat.le_trans h.size (by simp), fun k hk hne => (Below.heap_alloc A o k (Nat.lt_of_lt_of_le hk h.size)).trans (h.block k hk hne)⟩
theorem grown_putObj {w A : World} {row : Option Nat} (h : w.grownBy A row) {l : Nat} (hl : w.heap.size ≤ l) (o : Obj) : w.grownBy (A.putObj l o) row :=
  ⟨h.os, h.tape, h.output, by simpa using h.size, fun k hk hne => (World.putObj_heap_other (by omega)).trans (h.block k hk hne)⟩

end Go.Proofs.YtadfkiebblmfkaaGreatDoor

/- A range over a function whose rounds are known by their number: the iterator's contract and the loop's law, told by how many rounds are over. Condition: the iterator's contract. -/
namespace Go.Proofs.YtadfkiebblmfkaaGreatDoor
open Go Go.RowKit

/-- The iterator's contract: round k is handed enc k; when all N are over, or one has said that there shall be no more, it returns. -/
def SeqN (F : Fence) (n : Nat) (P : Program) (g : Nat) (lb : Array Value) (enc : Nat → Array Value) (Kp : World → World → Prop) (N : Nat) (w : World) : Prop :=
  ∀ (l : Nat) (J Jx : Nat → World → Prop) (W : World), Below w.heap.size w W → AbidesFrom W.heap.size J → AbidesFrom W.heap.size Jx →
    (∀ k W1, k < N → J k W1 → YieldAt F (n - 1) P l (enc k) W1 fun e W' =>
      (e = .returned (.bool true) ∧ J (k + 1) W' ∧ Kp W1 W') ∨ (e = .returned (.bool false) ∧ Jx k W')) →
    J 0 W →
    CallsIn F n P g (#[.func (.yield l) #[] #[]] ++ lb) W fun e W' => (∃ v, e = .returned v) ∧ (J N W' ∨ ∃ k, k < N ∧ Jx k W')

/-- How a round may be left. -/
def roundN (B : Nat) (Kp : World → World → Prop) (I : Nat → World → Prop) (Ix : Code → Nat → World → Prop) (k : Nat) (W : World) : Exit → Act → World → Prop
  | .normal, _, W' => KeepsFrom B W W' ∧ Kp W W' ∧ I (k + 1) W'
  | .ret, _, W' => KeepsFrom B W W' ∧ Ix .ret k W'
  | .exit id, _, W' => KeepsFrom B W W' ∧ Ix (.exit id) k W'
  | .goto t, _, W' => KeepsFrom B W W' ∧ Ix (.goto t) k W'
  | .panic _, _, _ => False
  | .outgrown, _, _ => False

variable {F : Fence} {n : Nat} {P : Program}

theorem wpIn_rangeFunc_N {g : Operand} {ps : Array Tmp} {assign body : Code} {Q : Exit → Act → World → Prop} {a : Act} {w : World}
    (hro : F.round = none) (h1 : 1 ≤ n) {gf : Nat} {lb : Array Value} (hg : a.eval g = .func (.func gf) #[] lb) (hFg : F.fn gf) (eg : ∀ args w, (callFunc gf args).run P w = .ok (.enter gf args) w)
    {enc : Nat → Array Value} {Kp : World → World → Prop} {N : Nat} (hseq : SeqN F (n - 1) P gf lb enc Kp N w)
    (hKt : ∀ {A B C : World}, Kp A B → Kp B C → Kp A C) (hKb : ∀ (W : World) (l : Nat) (o o' : Obj), w.heap.size ≤ l → W.heap[l]? = some o → o.isCells = false → o.isWalk = false → Kp W (W.putObj l o')) (hps : ∀ k, k < N → (enc k).size = ps.size)
    (I : Nat → World → Prop) (Ix : Code → Nat → World → Prop) (hI : OwnFrom w.heap.size I) (hIx : ∀ c, OwnFrom w.heap.size (Ix c)) (h0 : I 0 w) (Ax : Nat → Act → World → Prop) (hAx : ∀ k a', OwnFrom w.heap.size (fun (_ : Unit) W => Ax k a' W))
    (hassign : ∀ (l k : Nat) (W : World) (K : Act → World → Prop), k < N → I k W → (∀ a' W', KeepsFrom w.heap.size W W' → Kp W W' → I k W' → Ax k a' W' → K a' W') →
      assign.wpIn (F.inRound l) (n - 1 - 1) P (Exit.then K (fun _ _ _ => False)) { tmps := (ps.zip (enc k)).foldl (fun t (p, v) => t.setIfInBounds p v) a.tmps, defers := [] } W)
    (hbody : ∀ (l k : Nat) (a' : Act) (W : World), w.heap.size ≤ l → (∃ r, W.heap[l]? = some (.loop r)) → k < N → I k W → Ax k a' W → body.wpIn (F.inRound l) (n - 1 - 1) P (roundN w.heap.size Kp I Ix k W) a' W)
    (hdone : ∀ (D : Nat) (W : World), w.heap.size ≤ D → I N W → W.heap[D]? = some (.deferred (some [])) → Q .normal { a with defers := { target := .collected D, args := #[] } :: a.defers } W)
    (hstop : ∀ (D : Nat) (c : Code) (k : Nat) (W : World), w.heap.size ≤ D → k < N → Ix c k W → W.heap[D]? = some (.deferred (some [])) → c.wpIn F n P Q { a with defers := { target := .collected D, args := #[] } :: a.defers } W) :
    (Code.rangeFunc g ps assign body).wpIn F n P Q a w := by
  refine wpIn_rangeFunc ?_
  intro fn hfn
  rw [hro]
  obtain ⟨rec, hrec⟩ : ∃ rec : LoopState → Option Code → Loop, rec = fun st pe => { state := st, pending := pe, fn, tmps := a.tmps, params := ps, assign, body, defers := w.heap.size } := ⟨_, rfl⟩
  obtain ⟨W1, hW1⟩ : ∃ W1, (w.alloc (.deferred (some []))).alloc (.loop (rec .ready none)) = W1 := ⟨_, rfl⟩
  have hL1 : W1.heap[w.heap.size + 1]? = some (.loop (rec .ready none)) := by
    rw [← hW1]; have := World.alloc_heap_new (w.alloc (.deferred (some []))) (.loop (rec .ready none)); rwa [World.size_alloc] at this
  have hK1 : W1.heap[w.heap.size]? = some (.deferred (some [])) := by
    rw [← hW1]; exact (Below.heap_alloc _ _ _ (by simp)).trans (World.alloc_heap_new w _)
  have hI1 : I 0 W1 := by rw [← hW1]; exact hI.alloc _ (hI.alloc _ h0)
  have hb1 : Below w.heap.size w W1 := by
    rw [← hW1]; exact ((Below.refl _ w).alloc (Nat.le_refl _) _).alloc (by simp) _
  refine ⟨w.heap.size + 1, [{ target := .collected w.heap.size, args := #[] }], W1, { target := .fn (.func gf) lb, args := #[.func (.yield (w.heap.size + 1)) #[] #[]] }, W1, gf,
    #[.func (.yield (w.heap.size + 1)) #[] #[]] ++ lb, W1, ?_, ?_, ?_, ?_, fun _ => h1, ?_⟩
  · rw [← hW1, hrec]; exact run_enterLoop_outer _ _ _ _ _
  · simp only [resolve, hg]
    simp [go_sem]
  · intro f' hf'; simp [Target.leads] at hf'; subst hf'; exact hFg
  · simp [invoke, go_sem, eg]
  · have hnw : ∀ {A B : World} {row : Option Nat}, (∀ r, row = some r → W1.heap.size ≤ r ∧ ∃ o : Obj, A.heap[r]? = some o ∧ o.isWalk = true) → (∀ r, row = some r → w.heap.size ≤ r ∧ ∃ o : Obj, A.heap[r]? = some o ∧ o.isCells = false) :=
      fun hr r e => by obtain ⟨hB, o, ho, hw⟩ := hr r e; exact ⟨by rw [← hW1] at hB; simp at hB; omega, o, ho, Obj.not_cells_of_walk hw⟩
    refine (hseq (w.heap.size + 1)
      (fun k W => I k W ∧ W.heap[w.heap.size + 1]? = some (.loop (rec .ready none)) ∧ W.heap[w.heap.size]? = some (.deferred (some [])))
      (fun k W => ∃ c, Ix c k W ∧ W.heap[w.heap.size + 1]? = some (.loop (rec .done (some c))) ∧ W.heap[w.heap.size]? = some (.deferred (some [])))
      W1 hb1
      (fun s A B row hs hg' hr => ⟨hI s A B row hs.1 hg' (hnw (B := B) hr), (grownBy_keeps hg' (fun r e => (hr r e).2) hs.2.1 rfl).trans hs.2.1, (grownBy_keeps hg' (fun r e => (hr r e).2) hs.2.2 rfl).trans hs.2.2⟩)
      (fun s A B row hs hg' hr => by
        obtain ⟨c, hc, hl, hk⟩ := hs
        exact ⟨c, hIx c s A B row hc hg' (hnw (B := B) hr), (grownBy_keeps hg' (fun r e => (hr r e).2) hl rfl).trans hl, (grownBy_keeps hg' (fun r e => (hr r e).2) hk rfl).trans hk⟩)
      ?_ ⟨hI1, hL1, hK1⟩).mono ?_
    · rintro k W hkN ⟨hi, hl, hk⟩
      have hlt : w.heap.size + 1 < W.heap.size := (Array.getElem?_eq_some_iff.1 hl).1
      have hy := run_yield (P := P) (args := enc k) hl (by rw [hrec]; exact hps k hkN)
      rw [hrec] at hy
      refine ⟨fn, _, assign, body, hy, roundIn_of_wpIn hfn (hassign _ k W _ hkN hi ?_)⟩
      clear hy
      intro a' Wa hkfa hkpa hia hax
      replace hl := hkfa.same _ _ (by omega) hl rfl
      replace hk := hkfa.same _ _ (Nat.le_refl _) hk rfl
      replace hlt : w.heap.size + 1 < Wa.heap.size := (Array.getElem?_eq_some_iff.1 hl).1
      refine ⟨_, run_beginRound hl (by rw [hrec]), ?_⟩
      have hl2 : (Wa.putObj (w.heap.size + 1) (.loop { rec .ready none with state := .busy })).heap[w.heap.size + 1]? = some (.loop { rec .ready none with state := .busy }) := World.putObj_heap_same hlt
      have hk2 : (Wa.putObj (w.heap.size + 1) (.loop { rec .ready none with state := .busy })).heap[w.heap.size]? = some (.deferred (some [])) := (World.putObj_heap_other (by omega)).trans hk
      have hw2 : Kp Wa (Wa.putObj (w.heap.size + 1) (.loop { rec .ready none with state := .busy })) := hKb _ _ _ _ (by omega) hl rfl rfl
      refine wpIn_mono (hbody _ k a' _ (by omega) ⟨_, hl2⟩ hkN (hI.putObj _ hia (by omega) hl rfl) ((hAx k a').putObj (s := ()) _ hax (by omega) hl rfl)) ?_
      have fin : ∀ (jump : Option Code) (W3 : World), KeepsFrom w.heap.size (Wa.putObj (w.heap.size + 1) (.loop { rec .ready none with state := .busy })) W3 →
          (Instr.endRound (w.heap.size + 1) jump).run P W3 = .ok (.bool jump.isNone) (W3.putObj (w.heap.size + 1) (.loop (rec (if jump.isNone then .ready else .done) jump))) ∧
          W3.heap[w.heap.size + 1]? = some (.loop { rec .ready none with state := .busy }) ∧
          (W3.putObj (w.heap.size + 1) (.loop (rec (if jump.isNone then .ready else .done) jump))).heap[w.heap.size + 1]? = some (.loop (rec (if jump.isNone then .ready else .done) jump)) ∧
          (W3.putObj (w.heap.size + 1) (.loop (rec (if jump.isNone then .ready else .done) jump))).heap[w.heap.size]? = some (.deferred (some [])) := fun jump W3 hk3 => by
        have hl3 := hk3.same _ _ (by omega) hl2 rfl
        have := run_endRound (P := P) jump hl3
        rw [hrec] at this ⊢
        exact ⟨this, by rw [hrec] at hl3; exact hl3, World.putObj_heap_same (Array.getElem?_eq_some_iff.1 hl3).1, (World.putObj_heap_other (by omega)).trans (hk3.same _ _ (Nat.le_refl _) hk2 rfl)⟩
      rintro e a3 W3 hp
      cases e with
      | normal =>
        obtain ⟨hk3, hkp3, hi3⟩ := hp
        obtain ⟨hr, hl3, hl4, hk4⟩ := fin none W3 hk3
        exact ⟨_, _, hr, .inl ⟨rfl, ⟨hI.putObj _ hi3 (by omega) hl3 rfl, hl4, hk4⟩, hKt hkpa (hKt (hKt hw2 hkp3) (hKb _ _ _ _ (by omega) hl3 rfl rfl))⟩⟩
      | ret =>
        obtain ⟨hk3, hi3⟩ := hp
        obtain ⟨hr, hl3, hl4, hk4⟩ := fin (some .ret) W3 hk3
        exact ⟨_, _, hr, .inr ⟨rfl, .ret, (hIx _).putObj _ hi3 (by omega) hl3 rfl, hl4, hk4⟩⟩
      | exit id =>
        obtain ⟨hk3, hi3⟩ := hp
        obtain ⟨hr, hl3, hl4, hk4⟩ := fin (some (.exit id)) W3 hk3
        exact ⟨_, _, hr, .inr ⟨rfl, .exit id, (hIx _).putObj _ hi3 (by omega) hl3 rfl, hl4, hk4⟩⟩
      | goto t =>
        obtain ⟨hk3, hi3⟩ := hp
        obtain ⟨hr, hl3, hl4, hk4⟩ := fin (some (.goto t)) W3 hk3
        exact ⟨_, _, hr, .inr ⟨rfl, .goto t, (hIx _).putObj _ hi3 (by omega) hl3 rfl, hl4, hk4⟩⟩
      | panic ch => exact hp.elim
      | outgrown => exact hp.elim
    · rintro e W2 ⟨⟨v, rfl⟩, (⟨hi, hl, hk⟩ | ⟨k, hkN, c, hi, hl, hk⟩)⟩
      · exact ⟨none, _, by have := run_endLoop (P := P) hl (by rw [hrec]; simp); rw [hrec] at this; exact this, hdone _ _ (Nat.le_refl _) (hI.putObj _ hi (by omega) hl rfl) ((World.putObj_heap_other (by omega)).trans hk)⟩
      · exact ⟨some c, _, by have := run_endLoop (P := P) hl (by rw [hrec]; simp); rw [hrec] at this; exact this, hstop _ c k _ (Nat.le_refl _) hkN ((hIx c).putObj _ hi (by omega) hl rfl) ((World.putObj_heap_other (by omega)).trans hk)⟩

/-- The same where the assignment to the loop's left sides makes nothing. -/
theorem wpIn_rangeFunc_N1 {g : Operand} {ps : Array Tmp} {assign body : Code} {Q : Exit → Act → World → Prop} {a : Act} {w : World}
    (hro : F.round = none) (h1 : 1 ≤ n) {gf : Nat} {lb : Array Value} (hg : a.eval g = .func (.func gf) #[] lb) (hFg : F.fn gf) (eg : ∀ args w, (callFunc gf args).run P w = .ok (.enter gf args) w)
    {enc : Nat → Array Value} {Kp : World → World → Prop} {N : Nat} (hseq : SeqN F (n - 1) P gf lb enc Kp N w)
    (hKt : ∀ {A B C : World}, Kp A B → Kp B C → Kp A C) (hKr : ∀ W, Kp W W) (hKb : ∀ (W : World) (l : Nat) (o o' : Obj), w.heap.size ≤ l → W.heap[l]? = some o → o.isCells = false → o.isWalk = false → Kp W (W.putObj l o')) (hps : ∀ k, k < N → (enc k).size = ps.size)
    (I : Nat → World → Prop) (Ix : Code → Nat → World → Prop) (hI : OwnFrom w.heap.size I) (hIx : ∀ c, OwnFrom w.heap.size (Ix c)) (h0 : I 0 w) (a₁ : Nat → Act)
    (hassign : ∀ (l k : Nat) (W : World) (K : Act → World → Prop), k < N → K (a₁ k) W →
      assign.wpIn (F.inRound l) (n - 1 - 1) P (Exit.then K (fun _ _ _ => False)) { tmps := (ps.zip (enc k)).foldl (fun t (p, v) => t.setIfInBounds p v) a.tmps, defers := [] } W)
    (hbody : ∀ (l k : Nat) (W : World), w.heap.size ≤ l → k < N → I k W → body.wpIn (F.inRound l) (n - 1 - 1) P (roundN w.heap.size Kp I Ix k W) (a₁ k) W)
    (hdone : ∀ (D : Nat) (W : World), w.heap.size ≤ D → I N W → W.heap[D]? = some (.deferred (some [])) → Q .normal { a with defers := { target := .collected D, args := #[] } :: a.defers } W)
    (hstop : ∀ (D : Nat) (c : Code) (k : Nat) (W : World), w.heap.size ≤ D → k < N → Ix c k W → W.heap[D]? = some (.deferred (some [])) → c.wpIn F n P Q { a with defers := { target := .collected D, args := #[] } :: a.defers } W) :
    (Code.rangeFunc g ps assign body).wpIn F n P Q a w :=
  wpIn_rangeFunc_N hro h1 hg hFg eg hseq hKt hKb hps I Ix hI hIx h0 (fun k a' _ => a' = a₁ k) (fun _ _ _ _ _ _ hs _ _ => hs)
    (fun l k W K hk hi hK => hassign l k W K hk (hK _ _ (KeepsFrom.refl _ _) (hKr W) hi rfl)) (fun l k a' W hl _ hk hi e => by subst e; exact hbody l k W hl hk hi) hdone hstop
end Go.Proofs.YtadfkiebblmfkaaGreatDoor

/- The iterator over a word's four parts, told by the number of rounds. Condition: the pointer leads to an array of four numbers that the loop's body leaves alone. -/
namespace Go.Proofs.YtadfkiebblmfkaaGreatDoor
open Go Go.RowKit Go.Shelf
attribute [local go_sem] Oper.semAt_some

set_option maxRecDepth 100000 in
set_option maxHeartbeats 2000000 in
theorem parts_seq (n : Nat) (hn : 1 ≤ n) (Bs b : Nat) (z : Nat → Int) (w : World) (hBs : Bs < w.heap.size) (hb : b < w.heap.size)
    (hcB : w.cell? ⟨Bs, 0, none⟩ = some (.pointer (some ⟨b, 0, none⟩))) (hc : ∀ j, j < 4 → w.cell? ⟨b, j, none⟩ = some (.int .u64 (z j))) :
    SeqN Fence.wide n Tryz.prog 154 #[.pointer (some ⟨Bs, 0, none⟩)] (fun k => #[.int .i64 (k : Int), .int .u64 (z k)]) (KeepsAt [b, Bs]) 4 w := by
  intro l J Jx W hW _ _ hY h0
  have hBs' := (hW.cell (p := ⟨Bs, 0, none⟩) hBs).trans hcB
  have hc' : ∀ j, j < 4 → W.cell? ⟨b, j, none⟩ = some (.int .u64 (z j)) := fun j hj => (hW.cell (p := ⟨b, j, none⟩) hb).trans (hc j hj)
  clear hcB hc
  refine callsIn_of_wp Tryz.func154 rfl trivial ?_ rfl
  simp only [Tryz.ntmps154, List.size_toArray, List.length_cons, List.length_nil, Nat.reduceAdd, Nat.reduceSub, Array.replicate_succ, Array.replicate_zero, List.push_toArray, List.append_toArray, List.nil_append, List.cons_append]
  gi_wp2
  gi_loopw [4] (fun i wr => ∃ k : Nat, k ≤ 4 ∧ i = .int .i64 k ∧ J k wr ∧ KeepsAt [b, Bs] W wr)
    (fun i _ => 4 - (intOf i).toNat)
  case atStart => exact ⟨0, Nat.zero_le _, rfl, h0, KeepsAt.refl _ _⟩
  case round =>
    obtain ⟨k, hk, rfl, hJs, hnx⟩ := hrel
    by_cases hlt : k < 4
    · obtain ⟨fn, tmps, assign, body, hy, hR⟩ := hY k wr hlt hJs
      have hcx : wr.cell? ⟨b, k, none⟩ = some (.int .u64 (z k)) := (hnx.cell (p := ⟨b, k, none⟩) (by simp)).trans (hc' k hlt)
      have hbx : wr.cell? ⟨Bs, 0, none⟩ = some (.pointer (some ⟨b, 0, none⟩)) := (hnx.cell (p := ⟨Bs, 0, none⟩) (by simp)).trans hBs'
      clear hc' hBs'
      gi_wp2
      refine hR.mono ?_
      rintro e W3 (⟨rfl, hJ3, hk3⟩ | ⟨rfl, hJx3⟩)
      · gi_wp2
        go_roundw
        case rel => exact ⟨k + 1, by omega, by simp, hJ3, hnx.trans hk3⟩
        case measure => simp [intOf]; omega
      · gi_wp2
        refine bodyPost_ret (results_none rfl _ _ _) rfl ?_
        exact ⟨⟨_, rfl⟩, .inr ⟨k, hlt, hJx3⟩⟩
    · obtain rfl : k = 4 := by omega
      gi_wp2
      go_end0
      exact ⟨⟨_, rfl⟩, .inl hJs⟩
end Go.Proofs.YtadfkiebblmfkaaGreatDoor

/- A row of a product: a word times a factor, added to places of a sum. For every word and factor. -/
namespace Go.Proofs.YtadfkiebblmfkaaGreatDoor
open Go Go.RowKit Go.Shelf
attribute [local go_sem] Oper.semAt_some Grows wide_fn

/-- The carry into place k, and what place k becomes. -/
def rc (z : Nat → Int) (f : Int) (m : Nat → Int) : Nat → Int
  | 0 => 0
  | k + 1 => tpHi (z k) f (m k) (rc z f m k)
def ro (z : Nat → Int) (f : Int) (m : Nat → Int) (k : Nat) : Int := tpLo (z k) f (m k) (rc z f m k)
theorem rc_u64 (z : Nat → Int) (f : Int) (m : Nat → Int) (hz : ∀ k, U64 (z k)) (hf : U64 f) (hm : ∀ k, U64 (m k)) : ∀ k, U64 (rc z f m k)
  | 0 => ⟨by simp [rc], by simp [rc]⟩
  | k + 1 => (tp_bound _ _ _ _ (hz k) hf (hm k) (rc_u64 z f m hz hf hm k)).2
theorem ro_u64 (z : Nat → Int) (f : Int) (m : Nat → Int) (hz : ∀ k, U64 (z k)) (hf : U64 f) (hm : ∀ k, U64 (m k)) (k : Nat) : U64 (ro z f m k) :=
  (tp_bound _ _ _ _ (hz k) hf (hm k) (rc_u64 z f m hz hf hm k)).1

/-- The places from off on that have been gone through. -/
def rowAt (z : Nat → Int) (f : Int) (M : Nat → Int) (off k j : Nat) : Int := if off ≤ j ∧ j < off + k then ro z f (fun i => M (off + i)) (j - off) else M j
theorem rowAt_zero (z : Nat → Int) (f : Int) (M : Nat → Int) (off : Nat) : rowAt z f M off 0 = M := by funext j; unfold rowAt; rw [if_neg (by omega)]
theorem rowAt_here (z : Nat → Int) (f : Int) (M : Nat → Int) (off k : Nat) : rowAt z f M off k (off + k) = M (off + k) := by unfold rowAt; rw [if_neg (by omega)]
theorem rowAt_succ (z : Nat → Int) (f : Int) (M : Nat → Int) (off k : Nat) : rowAt z f M off (k + 1) = fun j => if j = off + k then ro z f (fun i => M (off + i)) k else rowAt z f M off k j := by
  funext j; unfold rowAt
  by_cases h : j = off + k
  · subst h; rw [if_pos (by omega), if_pos rfl, show off + k - off = k by omega]
  · rw [if_neg h]
    by_cases h2 : off ≤ j ∧ j < off + k
    · rw [if_pos (by omega), if_pos h2]
    · rw [if_neg (by omega), if_neg h2]

theorem size_own {β : Type} (B n : Nat) : OwnFrom B (fun (_ : β) W => n ≤ W.heap.size) := fun _ _ _ _ hs hg _ => Nat.le_trans hs hg.size
theorem grownBy_own {β : Type} (w : World) (S B : Nat) (hB : w.heap.size ≤ B) : OwnFrom B (fun (_ : β) W => w.grownBy W (some S)) := fun _ X Y row hs hg hr =>
  ⟨hg.os.trans hs.os, hg.tape.trans hs.tape, hg.output.trans hs.output, Nat.le_trans hs.size hg.size, fun k hk hne => (hg.block k (Nat.lt_of_lt_of_le hk hs.size) (fun e => by
    obtain ⟨h1, _⟩ := hr k e.symm
    omega)).trans (hs.block k hk hne)⟩
end Go.Proofs.YtadfkiebblmfkaaGreatDoor

/- Products of words, row by row: plain arithmetic. -/
namespace Go.Proofs.YtadfkiebblmfkaaGreatDoor
open Go Go.RowKit

theorem num_mul (z : Nat → Int) (f : Int) : num z * f = z 0 * f + z 1 * f * 18446744073709551616 + z 2 * f * 340282366920938463463374607431768211456 + z 3 * f * 6277101735386680763835789423207666416102355444464034512896 := by
  unfold num
  rw [Int.add_mul, Int.add_mul, Int.add_mul, Int.mul_right_comm (z 1), Int.mul_right_comm (z 2), Int.mul_right_comm (z 3)]
theorem tp_step (x y p q : Int) : tpLo x y p q + 18446744073709551616 * tpHi x y p q = x * y + p + q := Int.emod_add_mul_ediv ..
theorem row_num0 (z : Nat → Int) (f : Int) (M : Nat → Int) : ∃ c, num (rowAt z f M 0 4) + 115792089237316195423570985008687907853269984665640564039457584007913129639936 * c = num M + num z * f * 1 := by
  rw [num_mul]
  have k0 : ro z f (fun i => M (0 + i)) 0 + 18446744073709551616 * rc z f (fun i => M (0 + i)) 1 = z 0 * f + M 0 + rc z f (fun i => M (0 + i)) 0 := tp_step ..
  have k1 : ro z f (fun i => M (0 + i)) 1 + 18446744073709551616 * rc z f (fun i => M (0 + i)) 2 = z 1 * f + M 1 + rc z f (fun i => M (0 + i)) 1 := tp_step ..
  have k2 : ro z f (fun i => M (0 + i)) 2 + 18446744073709551616 * rc z f (fun i => M (0 + i)) 3 = z 2 * f + M 2 + rc z f (fun i => M (0 + i)) 2 := tp_step ..
  have k3 : ro z f (fun i => M (0 + i)) 3 + 18446744073709551616 * rc z f (fun i => M (0 + i)) 4 = z 3 * f + M 3 + rc z f (fun i => M (0 + i)) 3 := tp_step ..
  have kz : rc z f (fun i => M (0 + i)) 0 = 0 := rfl
  have r0 : rowAt z f M 0 4 0 = ro z f (fun i => M (0 + i)) 0 := rfl
  have r1 : rowAt z f M 0 4 1 = ro z f (fun i => M (0 + i)) 1 := rfl
  have r2 : rowAt z f M 0 4 2 = ro z f (fun i => M (0 + i)) 2 := rfl
  have r3 : rowAt z f M 0 4 3 = ro z f (fun i => M (0 + i)) 3 := rfl
  refine ⟨rc z f (fun i => M (0 + i)) 4, ?_⟩
  unfold num
  rw [r0, r1, r2, r3]
  clear r0 r1 r2 r3
  rw [kz] at k0
  clear kz
  generalize ro z f (fun i => M (0 + i)) 0 = o0 at *
  generalize ro z f (fun i => M (0 + i)) 1 = o1 at *
  generalize ro z f (fun i => M (0 + i)) 2 = o2 at *
  generalize ro z f (fun i => M (0 + i)) 3 = o3 at *
  generalize rc z f (fun i => M (0 + i)) 1 = c1 at *
  generalize rc z f (fun i => M (0 + i)) 2 = c2 at *
  generalize rc z f (fun i => M (0 + i)) 3 = c3 at *
  generalize rc z f (fun i => M (0 + i)) 4 = c4 at *
  generalize z 0 * f = p0 at *
  generalize M 0 = m0 at *
  generalize z 1 * f = p1 at *
  generalize M 1 = m1 at *
  generalize z 2 * f = p2 at *
  generalize M 2 = m2 at *
  generalize z 3 * f = p3 at *
  generalize M 3 = m3 at *
  omega
theorem row_num1 (z : Nat → Int) (f : Int) (M : Nat → Int) : ∃ c, num (rowAt z f M 1 3) + 115792089237316195423570985008687907853269984665640564039457584007913129639936 * c = num M + num z * f * 18446744073709551616 := by
  rw [num_mul]
  have k0 : ro z f (fun i => M (1 + i)) 0 + 18446744073709551616 * rc z f (fun i => M (1 + i)) 1 = z 0 * f + M 1 + rc z f (fun i => M (1 + i)) 0 := tp_step ..
  have k1 : ro z f (fun i => M (1 + i)) 1 + 18446744073709551616 * rc z f (fun i => M (1 + i)) 2 = z 1 * f + M 2 + rc z f (fun i => M (1 + i)) 1 := tp_step ..
  have k2 : ro z f (fun i => M (1 + i)) 2 + 18446744073709551616 * rc z f (fun i => M (1 + i)) 3 = z 2 * f + M 3 + rc z f (fun i => M (1 + i)) 2 := tp_step ..
  have kz : rc z f (fun i => M (1 + i)) 0 = 0 := rfl
  have r0 : rowAt z f M 1 3 0 = M 0 := rfl
  have r1 : rowAt z f M 1 3 1 = ro z f (fun i => M (1 + i)) 0 := rfl
  have r2 : rowAt z f M 1 3 2 = ro z f (fun i => M (1 + i)) 1 := rfl
  have r3 : rowAt z f M 1 3 3 = ro z f (fun i => M (1 + i)) 2 := rfl
  refine ⟨rc z f (fun i => M (1 + i)) 3 + z 3 * f * 1, ?_⟩
  unfold num
  rw [r0, r1, r2, r3]
  clear r0 r1 r2 r3
  rw [kz] at k0
  clear kz
  generalize ro z f (fun i => M (1 + i)) 0 = o0 at *
  generalize ro z f (fun i => M (1 + i)) 1 = o1 at *
  generalize ro z f (fun i => M (1 + i)) 2 = o2 at *
  generalize rc z f (fun i => M (1 + i)) 1 = c1 at *
  generalize rc z f (fun i => M (1 + i)) 2 = c2 at *
  generalize rc z f (fun i => M (1 + i)) 3 = c3 at *
  generalize z 0 * f = p0 at *
  generalize M 0 = m0 at *
  generalize z 1 * f = p1 at *
  generalize M 1 = m1 at *
  generalize z 2 * f = p2 at *
  generalize M 2 = m2 at *
  generalize z 3 * f = p3 at *
  generalize M 3 = m3 at *
  omega
theorem row_num2 (z : Nat → Int) (f : Int) (M : Nat → Int) : ∃ c, num (rowAt z f M 2 2) + 115792089237316195423570985008687907853269984665640564039457584007913129639936 * c = num M + num z * f * 340282366920938463463374607431768211456 := by
  rw [num_mul]
  have k0 : ro z f (fun i => M (2 + i)) 0 + 18446744073709551616 * rc z f (fun i => M (2 + i)) 1 = z 0 * f + M 2 + rc z f (fun i => M (2 + i)) 0 := tp_step ..
  have k1 : ro z f (fun i => M (2 + i)) 1 + 18446744073709551616 * rc z f (fun i => M (2 + i)) 2 = z 1 * f + M 3 + rc z f (fun i => M (2 + i)) 1 := tp_step ..
  have kz : rc z f (fun i => M (2 + i)) 0 = 0 := rfl
  have r0 : rowAt z f M 2 2 0 = M 0 := rfl
  have r1 : rowAt z f M 2 2 1 = M 1 := rfl
  have r2 : rowAt z f M 2 2 2 = ro z f (fun i => M (2 + i)) 0 := rfl
  have r3 : rowAt z f M 2 2 3 = ro z f (fun i => M (2 + i)) 1 := rfl
  refine ⟨rc z f (fun i => M (2 + i)) 2 + z 2 * f * 1 + z 3 * f * 18446744073709551616, ?_⟩
  unfold num
  rw [r0, r1, r2, r3]
  clear r0 r1 r2 r3
  rw [kz] at k0
  clear kz
  generalize ro z f (fun i => M (2 + i)) 0 = o0 at *
  generalize ro z f (fun i => M (2 + i)) 1 = o1 at *
  generalize rc z f (fun i => M (2 + i)) 1 = c1 at *
  generalize rc z f (fun i => M (2 + i)) 2 = c2 at *
  generalize z 0 * f = p0 at *
  generalize M 0 = m0 at *
  generalize z 1 * f = p1 at *
  generalize M 1 = m1 at *
  generalize z 2 * f = p2 at *
  generalize M 2 = m2 at *
  generalize z 3 * f = p3 at *
  generalize M 3 = m3 at *
  omega
theorem row_num3 (z : Nat → Int) (f : Int) (M : Nat → Int) : ∃ c, num (rowAt z f M 3 1) + 115792089237316195423570985008687907853269984665640564039457584007913129639936 * c = num M + num z * f * 6277101735386680763835789423207666416102355444464034512896 := by
  rw [num_mul]
  have k0 : ro z f (fun i => M (3 + i)) 0 + 18446744073709551616 * rc z f (fun i => M (3 + i)) 1 = z 0 * f + M 3 + rc z f (fun i => M (3 + i)) 0 := tp_step ..
  have kz : rc z f (fun i => M (3 + i)) 0 = 0 := rfl
  have r0 : rowAt z f M 3 1 0 = M 0 := rfl
  have r1 : rowAt z f M 3 1 1 = M 1 := rfl
  have r2 : rowAt z f M 3 1 2 = M 2 := rfl
  have r3 : rowAt z f M 3 1 3 = ro z f (fun i => M (3 + i)) 0 := rfl
  refine ⟨rc z f (fun i => M (3 + i)) 1 + z 1 * f * 1 + z 2 * f * 18446744073709551616 + z 3 * f * 340282366920938463463374607431768211456, ?_⟩
  unfold num
  rw [r0, r1, r2, r3]
  clear r0 r1 r2 r3
  rw [kz] at k0
  clear kz
  generalize ro z f (fun i => M (3 + i)) 0 = o0 at *
  generalize rc z f (fun i => M (3 + i)) 1 = c1 at *
  generalize z 0 * f = p0 at *
  generalize M 0 = m0 at *
  generalize z 1 * f = p1 at *
  generalize M 1 = m1 at *
  generalize z 2 * f = p2 at *
  generalize M 2 = m2 at *
  generalize z 3 * f = p3 at *
  generalize M 3 = m3 at *
  omega

/-- The places when k rows have been added. -/
def mulAt (a b : Nat → Int) : Nat → Nat → Int
  | 0 => fun _ => 0
  | k + 1 => rowAt a (b k) (mulAt a b k) k (4 - k)
theorem mulAt_u64 (a b : Nat → Int) (ha : ∀ k, U64 (a k)) (hb : ∀ k, U64 (b k)) : ∀ k j, U64 (mulAt a b k j)
  | 0, j => ⟨by simp [mulAt], by simp [mulAt]⟩
  | k + 1, j => by
    have ih := mulAt_u64 a b ha hb k
    show U64 (rowAt a (b k) (mulAt a b k) k (4 - k) j)
    unfold rowAt
    split
    · exact ro_u64 _ _ _ ha (hb k) (fun i => ih _) _
    · exact ih j
theorem mul_parts (a b : Nat) (ha : W256 a) (hb : W256 b) : ∀ k, k < 4 → mulAt (lim a) (lim b) 4 k = lim (wmod (a * b)) k := by
  have u := fun k => mulAt_u64 (lim a) (lim b) (lim_u64 a) (lim_u64 b) 4 k
  obtain ⟨c0, h0⟩ := row_num0 (lim a) (lim b 0) (mulAt (lim a) (lim b) 0)
  obtain ⟨c1, h1⟩ := row_num1 (lim a) (lim b 1) (mulAt (lim a) (lim b) 1)
  obtain ⟨c2, h2⟩ := row_num2 (lim a) (lim b 2) (mulAt (lim a) (lim b) 2)
  obtain ⟨c3, h3⟩ := row_num3 (lim a) (lim b 3) (mulAt (lim a) (lim b) 3)
  have e0 : num (mulAt (lim a) (lim b) 0) = 0 := rfl
  have e1 : num (rowAt (lim a) (lim b 0) (mulAt (lim a) (lim b) 0) 0 4) = num (mulAt (lim a) (lim b) 1) := rfl
  have e2 : num (rowAt (lim a) (lim b 1) (mulAt (lim a) (lim b) 1) 1 3) = num (mulAt (lim a) (lim b) 2) := rfl
  have e3 : num (rowAt (lim a) (lim b 2) (mulAt (lim a) (lim b) 2) 2 2) = num (mulAt (lim a) (lim b) 3) := rfl
  have e4 : num (rowAt (lim a) (lim b 3) (mulAt (lim a) (lim b) 3) 3 1) = num (mulAt (lim a) (lim b) 4) := rfl
  rw [e1, e0] at h0
  rw [e2] at h1
  rw [e3] at h2
  rw [e4] at h3
  have ea := num_lim a ha
  have eb := num_lim b hb
  rw [ea] at h0 h1 h2 h3
  have hab : ((a * b : Nat) : Int) = a * lim b 0 + a * lim b 1 * 18446744073709551616 + a * lim b 2 * 340282366920938463463374607431768211456 + a * lim b 3 * 6277101735386680763835789423207666416102355444464034512896 := by
    rw [Int.natCast_mul, ← eb]
    unfold num
    rw [Int.mul_add, Int.mul_add, Int.mul_add, Int.mul_assoc, Int.mul_assoc, Int.mul_assoc]
  obtain ⟨n0, n1⟩ := num_lt (mulAt (lim a) (lim b) 4) (u 0) (u 1) (u 2) (u 3)
  have key : num (mulAt (lim a) (lim b) 4) = ((wmod (a * b) : Nat) : Int) := by
    unfold wmod
    rw [Int.natCast_emod, hab]
    clear ea eb hab e0 e1 e2 e3 e4 u
    generalize num (mulAt (lim a) (lim b) 4) = t4 at *
    generalize num (mulAt (lim a) (lim b) 3) = t3 at *
    generalize num (mulAt (lim a) (lim b) 2) = t2 at *
    generalize num (mulAt (lim a) (lim b) 1) = t1 at *
    generalize (a : Int) * lim b 0 = p0 at *
    generalize (a : Int) * lim b 1 = p1 at *
    generalize (a : Int) * lim b 2 = p2 at *
    generalize (a : Int) * lim b 3 = p3 at *
    have e : p0 + p1 * 18446744073709551616 + p2 * 340282366920938463463374607431768211456 + p3 * 6277101735386680763835789423207666416102355444464034512896 = t4 + 115792089237316195423570985008687907853269984665640564039457584007913129639936 * (c0 + c1 + c2 + c3) := by omega
    rw [e]
    show t4 = (t4 + 115792089237316195423570985008687907853269984665640564039457584007913129639936 * (c0 + c1 + c2 + c3)) % 115792089237316195423570985008687907853269984665640564039457584007913129639936
    rw [Int.add_mul_emod_self_left, Int.emod_eq_of_lt n0 n1]
  obtain ⟨g0, g1, g2, g3⟩ := lim_num _ _ (u 0) (u 1) (u 2) (u 3) key
  intro k hk
  match k, hk with
  | 0, _ => exact g0.symm
  | 1, _ => exact g1.symm
  | 2, _ => exact g2.symm
  | 3, _ => exact g3.symm
end Go.Proofs.YtadfkiebblmfkaaGreatDoor
