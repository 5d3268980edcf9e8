/- Part. -/
import Derived.RangeFuncNested
import Derived.RangeFuncBound
import Derived.RangeFuncCalls
import Derived.RangeFuncLeaves
import Derived.RangeFuncBox
import Derived.Test.YthcmfadofogfaaaDoorG01
import Derived.Deep.OwnRows
import Derived.Laws.BytesArg
import Derived.Lib.Mul64
import Derived.Shelf.Bits.Mul64
set_option maxRecDepth 100000
set_option maxHeartbeats 16000000
namespace Go.Proofs.YthcmfadofogfaaaDoor
section
open Go Go.RowKit
def SeqN (F : Fence) (n : Nat) (P : Program) (g : Nat) (lb : Array Value) (enc : Nat → Array Value) (Kp : World → World → Prop) (N : Nat) (w : World) : Prop :=
 ∀ (l : Nat) (J Jx : Nat → World → Prop) (W : World), Below w.heap.size w W → AbidesFrom W.heap.size J → AbidesFrom W.heap.size Jx →
  (∀ k W1, k < N → J k W1 → YieldAt F (n - 1) P l (enc k) W1 fun e W' =>
   (e = .returned (.bool true) ∧ J (k + 1) W' ∧ Kp W1 W') ∨ (e = .returned (.bool false) ∧ Jx k W')) →
  J 0 W →
  CallsIn F n P g (#[.func (.yield l) #[] #[]] ++ lb) W fun e W' => (∃ v, e = .returned v) ∧ (J N W' ∨ ∃ k, k < N ∧ Jx k W')
def roundN (B : Nat) (Kp : World → World → Prop) (I : Nat → World → Prop) (Ix : Code → Nat → World → Prop) (k : Nat) (W : World) : Exit → Act → World → Prop
 | .normal, _, W' => KeepsFrom B W W' ∧ Kp W W' ∧ I (k + 1) W'
 | .ret, _, W' => KeepsFrom B W W' ∧ Ix .ret k W'
 | .exit id, _, W' => KeepsFrom B W W' ∧ Ix (.exit id) k W'
 | .goto t, _, W' => KeepsFrom B W W' ∧ Ix (.goto t) k W'
 | .panic _, _, _ => False
 | .outgrown, _, _ => False
variable {F : Fence} {n : Nat} {P : Program}
theorem wpIn_rangeFunc_N {g : Operand} {ps : Array Tmp} {assign body : Code} {Q : Exit → Act → World → Prop} {a : Act} {w : World}
  (hro : F.round = none) (h1 : 1 ≤ n) {gf : Nat} {lb : Array Value} (hg : a.eval g = .func (.func gf) #[] lb) (hFg : F.fn gf) (eg : ∀ args w, (callFunc gf args).run P w = .ok (.enter gf args) w)
  {enc : Nat → Array Value} {Kp : World → World → Prop} {N : Nat} (hseq : SeqN F (n - 1) P gf lb enc Kp N w)
  (hKt : ∀ {A B C : World}, Kp A B → Kp B C → Kp A C) (hKb : ∀ (W : World) (l : Nat) (o o' : Obj), w.heap.size ≤ l → W.heap[l]? = some o → o.isCells = false → o.isWalk = false → Kp W (W.putObj l o')) (hps : ∀ k, k < N → (enc k).size = ps.size)
  (I : Nat → World → Prop) (Ix : Code → Nat → World → Prop) (hI : OwnFrom w.heap.size I) (hIx : ∀ c, OwnFrom w.heap.size (Ix c)) (h0 : I 0 w) (Ax : Nat → Act → World → Prop) (hAx : ∀ k a', OwnFrom w.heap.size (fun (_ : Unit) W => Ax k a' W))
  (hassign : ∀ (l k : Nat) (W : World) (K : Act → World → Prop), k < N → I k W → (∀ a' W', KeepsFrom w.heap.size W W' → Kp W W' → I k W' → Ax k a' W' → K a' W') →
   assign.wpIn (F.inRound l) (n - 1 - 1) P (Exit.then K (fun _ _ _ => False)) { tmps := (ps.zip (enc k)).foldl (fun t (p, v) => t.setIfInBounds p v) a.tmps, defers := [] } W)
  (hbody : ∀ (l k : Nat) (a' : Act) (W : World), w.heap.size ≤ l → (∃ r, W.heap[l]? = some (.loop r)) → k < N → I k W → Ax k a' W → body.wpIn (F.inRound l) (n - 1 - 1) P (roundN w.heap.size Kp I Ix k W) a' W)
  (hdone : ∀ (D : Nat) (W : World), w.heap.size ≤ D → I N W → W.heap[D]? = some (.deferred (some [])) → Q .normal { a with defers := { target := .collected D, args := #[] } :: a.defers } W)
  (hstop : ∀ (D : Nat) (c : Code) (k : Nat) (W : World), w.heap.size ≤ D → k < N → Ix c k W → W.heap[D]? = some (.deferred (some [])) → c.wpIn F n P Q { a with defers := { target := .collected D, args := #[] } :: a.defers } W) :
  (Code.rangeFunc g ps assign body).wpIn F n P Q a w := by
 refine wpIn_rangeFunc ?_
 intro fn hfn
 rw [hro]
 obtain ⟨rec, hrec⟩ : ∃ rec : LoopState → Option Code → Loop, rec = fun st pe => { state := st, pending := pe, fn, tmps := a.tmps, params := ps, assign, body, defers := w.heap.size } := ⟨_, rfl⟩
 obtain ⟨W1, hW1⟩ : ∃ W1, (w.alloc (.deferred (some []))).alloc (.loop (rec .ready none)) = W1 := ⟨_, rfl⟩
 have hL1 : W1.heap[w.heap.size + 1]? = some (.loop (rec .ready none)) := by
  rw [← hW1]; have := World.alloc_heap_new (w.alloc (.deferred (some []))) (.loop (rec .ready none)); rwa [World.size_alloc] at this
 have hK1 : W1.heap[w.heap.size]? = some (.deferred (some [])) := by
  rw [← hW1]; exact (Below.heap_alloc _ _ _ (by simp)).trans (World.alloc_heap_new w _)
 have hI1 : I 0 W1 := by rw [← hW1]; exact hI.alloc _ (hI.alloc _ h0)
 have hb1 : Below w.heap.size w W1 := by
  rw [← hW1]; exact ((Below.refl _ w).alloc (Nat.le_refl _) _).alloc (by simp) _
 refine ⟨w.heap.size + 1, [{ target := .collected w.heap.size, args := #[] }], W1, { target := .fn (.func gf) lb, args := #[.func (.yield (w.heap.size + 1)) #[] #[]] }, W1, gf,
  #[.func (.yield (w.heap.size + 1)) #[] #[]] ++ lb, W1, ?_, ?_, ?_, ?_, fun _ => h1, ?_⟩
 ·rw [← hW1, hrec]; exact run_enterLoop_outer _ _ _ _ _
 ·simp only [resolve, hg]
  simp [go_sem]
 ·intro f' hf'; simp [Target.leads] at hf'; subst hf'; exact hFg
 ·simp [invoke, go_sem, eg]
 ·have hnw : ∀ {A B : World} {row : Option Nat}, (∀ r, row = some r → W1.heap.size ≤ r ∧ ∃ o : Obj, A.heap[r]? = some o ∧ o.isWalk = true) → (∀ r, row = some r → w.heap.size ≤ r ∧ ∃ o : Obj, A.heap[r]? = some o ∧ o.isCells = false) :=
   fun hr r e => by obtain ⟨hB, o, ho, hw⟩ := hr r e; exact ⟨by rw [← hW1] at hB; simp at hB; omega, o, ho, Obj.not_cells_of_walk hw⟩
  refine (hseq (w.heap.size + 1)
   (fun k W => I k W ∧ W.heap[w.heap.size + 1]? = some (.loop (rec .ready none)) ∧ W.heap[w.heap.size]? = some (.deferred (some [])))
   (fun k W => ∃ c, Ix c k W ∧ W.heap[w.heap.size + 1]? = some (.loop (rec .done (some c))) ∧ W.heap[w.heap.size]? = some (.deferred (some [])))
   W1 hb1
   (fun s A B row hs hg' hr => ⟨hI s A B row hs.1 hg' (hnw (B := B) hr), (grownBy_keeps hg' (fun r e => (hr r e).2) hs.2.1 rfl).trans hs.2.1, (grownBy_keeps hg' (fun r e => (hr r e).2) hs.2.2 rfl).trans hs.2.2⟩)
   (fun s A B row hs hg' hr => by
    obtain ⟨c, hc, hl, hk⟩ := hs
    exact ⟨c, hIx c s A B row hc hg' (hnw (B := B) hr), (grownBy_keeps hg' (fun r e => (hr r e).2) hl rfl).trans hl, (grownBy_keeps hg' (fun r e => (hr r e).2) hk rfl).trans hk⟩)
   ?_ ⟨hI1, hL1, hK1⟩).mono ?_
  ·rintro k W hkN ⟨hi, hl, hk⟩
   have hlt : w.heap.size + 1 < W.heap.size := (Array.getElem?_eq_some_iff.1 hl).1
   have hy := run_yield (P := P) (args := enc k) hl (by rw [hrec]; exact hps k hkN)
   rw [hrec] at hy
   refine ⟨fn, _, assign, body, hy, roundIn_of_wpIn hfn (hassign _ k W _ hkN hi ?_)⟩
   clear hy
   intro a' Wa hkfa hkpa hia hax
   replace hl := hkfa.same _ _ (by omega) hl rfl
   replace hk := hkfa.same _ _ (Nat.le_refl _) hk rfl
   replace hlt : w.heap.size + 1 < Wa.heap.size := (Array.getElem?_eq_some_iff.1 hl).1
   refine ⟨_, run_beginRound hl (by rw [hrec]), ?_⟩
   have hl2 : (Wa.putObj (w.heap.size + 1) (.loop { rec .ready none with state := .busy })).heap[w.heap.size + 1]? = some (.loop { rec .ready none with state := .busy }) := World.putObj_heap_same hlt
   have hk2 : (Wa.putObj (w.heap.size + 1) (.loop { rec .ready none with state := .busy })).heap[w.heap.size]? = some (.deferred (some [])) := (World.putObj_heap_other (by omega)).trans hk
   have hw2 : Kp Wa (Wa.putObj (w.heap.size + 1) (.loop { rec .ready none with state := .busy })) := hKb _ _ _ _ (by omega) hl rfl rfl
   refine wpIn_mono (hbody _ k a' _ (by omega) ⟨_, hl2⟩ hkN (hI.putObj _ hia (by omega) hl rfl) ((hAx k a').putObj (s := ()) _ hax (by omega) hl rfl)) ?_
   have fin : ∀ (jump : Option Code) (W3 : World), KeepsFrom w.heap.size (Wa.putObj (w.heap.size + 1) (.loop { rec .ready none with state := .busy })) W3 →
     (Instr.endRound (w.heap.size + 1) jump).run P W3 = .ok (.bool jump.isNone) (W3.putObj (w.heap.size + 1) (.loop (rec (if jump.isNone then .ready else .done) jump))) ∧
     W3.heap[w.heap.size + 1]? = some (.loop { rec .ready none with state := .busy }) ∧
     (W3.putObj (w.heap.size + 1) (.loop (rec (if jump.isNone then .ready else .done) jump))).heap[w.heap.size + 1]? = some (.loop (rec (if jump.isNone then .ready else .done) jump)) ∧
     (W3.putObj (w.heap.size + 1) (.loop (rec (if jump.isNone then .ready else .done) jump))).heap[w.heap.size]? = some (.deferred (some [])) := fun jump W3 hk3 => by
    have hl3 := hk3.same _ _ (by omega) hl2 rfl
    have := run_endRound (P := P) jump hl3
    rw [hrec] at this ⊢
    exact ⟨this, by rw [hrec] at hl3; exact hl3, World.putObj_heap_same (Array.getElem?_eq_some_iff.1 hl3).1, (World.putObj_heap_other (by omega)).trans (hk3.same _ _ (Nat.le_refl _) hk2 rfl)⟩
   rintro e a3 W3 hp
   cases e with
   | normal =>
    obtain ⟨hk3, hkp3, hi3⟩ := hp
    obtain ⟨hr, hl3, hl4, hk4⟩ := fin none W3 hk3
    exact ⟨_, _, hr, .inl ⟨rfl, ⟨hI.putObj _ hi3 (by omega) hl3 rfl, hl4, hk4⟩, hKt hkpa (hKt (hKt hw2 hkp3) (hKb _ _ _ _ (by omega) hl3 rfl rfl))⟩⟩
   | ret =>
    obtain ⟨hk3, hi3⟩ := hp
    obtain ⟨hr, hl3, hl4, hk4⟩ := fin (some .ret) W3 hk3
    exact ⟨_, _, hr, .inr ⟨rfl, .ret, (hIx _).putObj _ hi3 (by omega) hl3 rfl, hl4, hk4⟩⟩
   | exit id =>
    obtain ⟨hk3, hi3⟩ := hp
    obtain ⟨hr, hl3, hl4, hk4⟩ := fin (some (.exit id)) W3 hk3
    exact ⟨_, _, hr, .inr ⟨rfl, .exit id, (hIx _).putObj _ hi3 (by omega) hl3 rfl, hl4, hk4⟩⟩
   | goto t =>
    obtain ⟨hk3, hi3⟩ := hp
    obtain ⟨hr, hl3, hl4, hk4⟩ := fin (some (.goto t)) W3 hk3
    exact ⟨_, _, hr, .inr ⟨rfl, .goto t, (hIx _).putObj _ hi3 (by omega) hl3 rfl, hl4, hk4⟩⟩
   | panic ch => exact hp.elim
   | outgrown => exact hp.elim
  ·rintro e W2 ⟨⟨v, rfl⟩, (⟨hi, hl, hk⟩ | ⟨k, hkN, c, hi, hl, hk⟩)⟩
   ·exact ⟨none, _, by have := run_endLoop (P := P) hl (by rw [hrec]; simp); rw [hrec] at this; exact this, hdone _ _ (Nat.le_refl _) (hI.putObj _ hi (by omega) hl rfl) ((World.putObj_heap_other (by omega)).trans hk)⟩
   ·exact ⟨some c, _, by have := run_endLoop (P := P) hl (by rw [hrec]; simp); rw [hrec] at this; exact this, hstop _ c k _ (Nat.le_refl _) hkN ((hIx c).putObj _ hi (by omega) hl rfl) ((World.putObj_heap_other (by omega)).trans hk)⟩
theorem wpIn_rangeFunc_N1 {g : Operand} {ps : Array Tmp} {assign body : Code} {Q : Exit → Act → World → Prop} {a : Act} {w : World}
  (hro : F.round = none) (h1 : 1 ≤ n) {gf : Nat} {lb : Array Value} (hg : a.eval g = .func (.func gf) #[] lb) (hFg : F.fn gf) (eg : ∀ args w, (callFunc gf args).run P w = .ok (.enter gf args) w)
  {enc : Nat → Array Value} {Kp : World → World → Prop} {N : Nat} (hseq : SeqN F (n - 1) P gf lb enc Kp N w)
  (hKt : ∀ {A B C : World}, Kp A B → Kp B C → Kp A C) (hKr : ∀ W, Kp W W) (hKb : ∀ (W : World) (l : Nat) (o o' : Obj), w.heap.size ≤ l → W.heap[l]? = some o → o.isCells = false → o.isWalk = false → Kp W (W.putObj l o')) (hps : ∀ k, k < N → (enc k).size = ps.size)
  (I : Nat → World → Prop) (Ix : Code → Nat → World → Prop) (hI : OwnFrom w.heap.size I) (hIx : ∀ c, OwnFrom w.heap.size (Ix c)) (h0 : I 0 w) (a₁ : Nat → Act)
  (hassign : ∀ (l k : Nat) (W : World) (K : Act → World → Prop), k < N → K (a₁ k) W →
   assign.wpIn (F.inRound l) (n - 1 - 1) P (Exit.then K (fun _ _ _ => False)) { tmps := (ps.zip (enc k)).foldl (fun t (p, v) => t.setIfInBounds p v) a.tmps, defers := [] } W)
  (hbody : ∀ (l k : Nat) (W : World), w.heap.size ≤ l → k < N → I k W → body.wpIn (F.inRound l) (n - 1 - 1) P (roundN w.heap.size Kp I Ix k W) (a₁ k) W)
  (hdone : ∀ (D : Nat) (W : World), w.heap.size ≤ D → I N W → W.heap[D]? = some (.deferred (some [])) → Q .normal { a with defers := { target := .collected D, args := #[] } :: a.defers } W)
  (hstop : ∀ (D : Nat) (c : Code) (k : Nat) (W : World), w.heap.size ≤ D → k < N → Ix c k W → W.heap[D]? = some (.deferred (some [])) → c.wpIn F n P Q { a with defers := { target := .collected D, args := #[] } :: a.defers } W) :
  (Code.rangeFunc g ps assign body).wpIn F n P Q a w :=
 wpIn_rangeFunc_N hro h1 hg hFg eg hseq hKt hKb hps I Ix hI hIx h0 (fun k a' _ => a' = a₁ k) (fun _ _ _ _ _ _ hs _ _ => hs)
  (fun l k W K hk hi hK => hassign l k W K hk (hK _ _ (KeepsFrom.refl _ _) (hKr W) hi rfl)) (fun l k a' W hl _ hk hi e => by subst e; exact hbody l k W hl hk hi) hdone hstop
end
section
open Go Go.RowKit Go.Shelf
attribute [local go_sem] Oper.semAt_some
theorem parts_seq (n : Nat) (hn : 1 ≤ n) (Bs b : Nat) (z : Nat → Int) (w : World) (hBs : Bs < w.heap.size) (hb : b < w.heap.size)
  (hcB : w.cell? ⟨Bs, 0, none⟩ = some (.pointer (some ⟨b, 0, none⟩))) (hc : ∀ j, j < 4 → w.cell? ⟨b, j, none⟩ = some (.int .u64 (z j))) :
  SeqN Fence.wide n Tryd.prog 86 #[.pointer (some ⟨Bs, 0, none⟩)] (fun k => #[.int .i64 (k : Int), .int .u64 (z k)]) (KeepsAt [b, Bs]) 4 w := by
 intro l J Jx W hW _ _ hY h0
 have hBs' := (hW.cell (p := ⟨Bs, 0, none⟩) hBs).trans hcB
 have hc' : ∀ j, j < 4 → W.cell? ⟨b, j, none⟩ = some (.int .u64 (z j)) := fun j hj => (hW.cell (p := ⟨b, j, none⟩) hb).trans (hc j hj)
 clear hcB hc
 refine callsIn_of_wp Tryd.func86 rfl trivial ?_ rfl
 simp only [Tryd.ntmps86, List.size_toArray, List.length_cons, List.length_nil, Nat.reduceAdd, Nat.reduceSub, Array.replicate_succ, Array.replicate_zero, List.push_toArray, List.append_toArray, List.nil_append, List.cons_append]
 gi_wp2
 gi_loopw [4] (fun i wr => ∃ k : Nat, k ≤ 4 ∧ i = .int .i64 k ∧ J k wr ∧ KeepsAt [b, Bs] W wr)
  (fun i _ => 4 - (intOf i).toNat)
 case atStart => exact ⟨0, Nat.zero_le _, rfl, h0, KeepsAt.refl _ _⟩
 case round =>
  obtain ⟨k, hk, rfl, hJs, hnx⟩ := hrel
  by_cases hlt : k < 4
  ·obtain ⟨fn, tmps, assign, body, hy, hR⟩ := hY k wr hlt hJs
   have hcx : wr.cell? ⟨b, k, none⟩ = some (.int .u64 (z k)) := (hnx.cell (p := ⟨b, k, none⟩) (by simp)).trans (hc' k hlt)
   have hbx : wr.cell? ⟨Bs, 0, none⟩ = some (.pointer (some ⟨b, 0, none⟩)) := (hnx.cell (p := ⟨Bs, 0, none⟩) (by simp)).trans hBs'
   clear hc' hBs'
   gi_wp2
   refine hR.mono ?_
   rintro e W3 (⟨rfl, hJ3, hk3⟩ | ⟨rfl, hJx3⟩)
   ·gi_wp2
    go_roundw
    case rel => exact ⟨k + 1, by omega, by simp, hJ3, hnx.trans hk3⟩
    case measure => simp [intOf]; omega
   ·gi_wp2
    refine bodyPost_ret (results_none rfl _ _ _) rfl ?_
    exact ⟨⟨_, rfl⟩, .inr ⟨k, hlt, hJx3⟩⟩
  ·obtain rfl : k = 4 := by omega
   gi_wp2
   go_end0
   exact ⟨⟨_, rfl⟩, .inl hJs⟩
end
section
open Go Go.RowKit Go.Shelf
attribute [local go_sem] Oper.semAt_some Grows wide_fn
def I64 (n : Int) : Prop := -9223372036854775808 ≤ n ∧ n ≤ 9223372036854775807
def ofN (n : Int) : Nat := if n < 0 then (115792089237316195423570985008687907853269984665640564039457584007913129639936 + n).toNat else n.toNat
theorem of_neg (n : Int) (h : I64 n) (hn : n < 0) : lim (ofN n) 0 = 18446744073709551616 + n ∧ lim (ofN n) 1 = 18446744073709551615 ∧ lim (ofN n) 2 = 18446744073709551615 ∧ lim (ofN n) 3 = 18446744073709551615 := by
 unfold I64 at h
 refine lim_num (fun k => if k = 0 then 18446744073709551616 + n else 18446744073709551615) _ ?_ ?_ ?_ ?_ ?_
 ·unfold U64; simp; omega
 ·unfold U64; simp
 ·unfold U64; simp
 ·unfold U64; simp
 ·unfold num ofN; rw [if_pos hn]; simp; omega
theorem of_pos (n : Int) (h : I64 n) (hn : ¬ n < 0) : lim (ofN n) 0 = n ∧ lim (ofN n) 1 = 0 ∧ lim (ofN n) 2 = 0 ∧ lim (ofN n) 3 = 0 := by
 unfold I64 at h
 refine lim_num (fun k => if k = 0 then n else 0) _ ?_ ?_ ?_ ?_ ?_
 ·unfold U64; simp; omega
 ·unfold U64; simp
 ·unfold U64; simp
 ·unfold U64; simp
 ·unfold num ofN; rw [if_neg hn]; simp; omega

structure Kind where
 base : Nat
 dig : UInt8 → Option Nat
 pos : 2 ≤ base
 top : base ≤ 256
 lt : ∀ c v, dig c = some v → v < base
def octK : Kind := ⟨256, fun c => some c.toNat, by decide, by decide, fun c v h => by cases h; exact c.toNat_lt⟩
def numFrom (K : Kind) (n : Nat) : List UInt8 → Option Nat
 | [] => some n
 | c :: r => match K.dig c with | some v => numFrom K (n * K.base + v) r | none => none
theorem numFrom_append (K : Kind) : ∀ (a : List UInt8) (n : Nat) (b : List UInt8), numFrom K n (a ++ b) = (numFrom K n a).bind fun m => numFrom K m b
 | [], n, b => rfl
 | c :: r, n, b => by
  simp only [List.cons_append, numFrom]
  cases K.dig c with
  | none => rfl
  | some v => exact numFrom_append K r _ b
theorem numFrom_lt (K : Kind) : ∀ (l : List UInt8) (n m : Nat), numFrom K n l = some m → m < (n + 1) * K.base ^ l.length
 | [], n, m, h => by cases h; simp
 | c :: r, n, m, h => by
  simp only [numFrom] at h
  cases hd : K.dig c with
  | none => rw [hd] at h; cases h
  | some v =>
   rw [hd] at h
   have h1 := numFrom_lt K r _ m h
   have h2 := K.lt c v hd
   refine Nat.lt_of_lt_of_le h1 ?_
   rw [List.length_cons, Nat.pow_succ, Nat.mul_comm (K.base ^ r.length), ← Nat.mul_assoc]
   exact Nat.mul_le_mul_right _ (by rw [Nat.add_mul]; omega)
theorem numFrom_zero (K : Kind) : ∀ (l : List UInt8) (n : Nat), numFrom K n l = (numFrom K 0 l).map fun m => n * K.base ^ l.length + m
 | [], n => by simp [numFrom]
 | c :: r, n => by
  simp only [numFrom]
  cases hd : K.dig c with
  | none => rfl
  | some v =>
   simp only []
   rw [numFrom_zero K r (n * K.base + v), numFrom_zero K r (0 * K.base + v)]
   cases numFrom K 0 r with
   | none => rfl
   | some m =>
    simp only [Option.map_some, List.length_cons, Nat.pow_succ, Option.some.injEq]
    rw [Nat.add_mul, Nat.add_mul, Nat.mul_assoc, Nat.mul_comm K.base (K.base ^ r.length)]
    omega
def smallV (K : Kind) (l : List UInt8) : Value := match numFrom K 0 l with
 | some n => .tuple #[.int .u64 (n : Int), .int .u64 ((K.base ^ l.length : Nat) : Int), .bool true]
 | none => .tuple #[.int .u64 0, .int .u64 0, .bool false]
theorem meth_oct_base (v : Value) (W : World) : (method 254 94 v "railhead/word.base").run Tryd.prog W = .ok (121, v) W := by kernel_rfl
theorem meth_oct_value (v : Value) (W : World) : (method 254 94 v "railhead/word.value").run Tryd.prog W = .ok (122, v) W := by kernel_rfl
def digV : Option Nat → Value
 | some v => .tuple #[.int .u64 (v : Int), .bool true]
 | none => .tuple #[.int .u64 0, .bool false]
def SameRet (P : Program) (f : FuncId) (args : Array Value) (v : Value) : Prop := ∀ w, Calls P f args w fun e w' => e = .returned v ∧ w = w'
theorem base_oct (v : Value) : SameRet Tryd.prog 121 #[v] (.int .u64 256) := by
 intro w
 go_enter Tryd.func121, Tryd.ntmps121
 go_wp2
 go_ret
 exact ⟨rfl, rfl⟩
theorem value_oct (c : UInt8) : SameRet Tryd.prog 122 #[.int .u8 (c.toNat : Int)] (digV (octK.dig c)) := by
 intro w
 show Calls _ _ _ _ fun e w' => e = .returned (.tuple #[.int .u64 (c.toNat : Int), .bool true]) ∧ w = w'
 have h := c.toNat_lt
 go_enter Tryd.func122, Tryd.ntmps122
 go_wp2
 go_ret2
 exact ⟨rfl, rfl⟩
theorem octK_base : octK.base = 256 := rfl
theorem take_snocW (s : ByteArray) (k : Nat) (h : k < s.size) : s.data.toList.take (k + 1) = s.data.toList.take k ++ [s[k]] := by
 rw [List.take_succ_eq_append_getElem (by simpa using h)]; rfl
theorem numFrom_snoc (K : Kind) (l : List UInt8) (c : UInt8) : numFrom K 0 (l ++ [c]) = (numFrom K 0 l).bind fun n => (K.dig c).map fun v => n * K.base + v := by
 rw [numFrom_append]
 cases numFrom K 0 l with
 | none => rfl
 | some n => simp only [Option.bind_some, numFrom]; cases K.dig c <;> rfl
theorem numFrom_bad (K : Kind) (s : ByteArray) (k : Nat) (h : k < s.size) (hd : K.dig s[k] = none) : numFrom K 0 s.data.toList = none := by
 have e : s.data.toList = s.data.toList.take k ++ (s[k] :: s.data.toList.drop (k + 1)) := by
  have := List.take_append_drop k s.data.toList
  rw [List.drop_eq_getElem_cons (by simpa using h)] at this
  exact this.symm
 rw [e, numFrom_append]
 cases numFrom K 0 (s.data.toList.take k) with
 | none => rfl
 | some n => simp only [Option.bind_some, numFrom, hd]
theorem small_oct (s : ByteArray) (hs : s.size ≤ 7) : SameRet Tryd.prog 72 #[.string s] (smallV octK s.data.toList) := by
 intro w
 have hmb := meth_oct_base
 have hmv := meth_oct_value
 go_enter Tryd.func72, Tryd.ntmps72
 go_wp2_with (go_at_call 121; refine (base_oct _ _).mono ?_; rintro e w' ⟨rfl, rfl⟩)
 go_loop [2, 3, 4, 14] (fun n u b i => ∃ k m : Nat, b = .bool false ∧ k ≤ s.size ∧ numFrom octK 0 (s.data.toList.take k) = some m ∧ i = .int .i64 k ∧ n = .int .u64 (m : Int) ∧ u = .int .u64 ((256 ^ k : Nat) : Int)) (fun _ _ _ i => s.size - (intOf i).toNat)
 case atStart => exact ⟨0, 0, rfl, Nat.zero_le _, rfl, rfl, rfl, rfl⟩
 case round =>
  obtain ⟨k, m, rfl, hk, hnum, rfl, rfl, rfl⟩ := hrel
  have hm := numFrom_lt octK _ _ _ hnum
  rw [octK_base, List.length_take, Nat.min_eq_left (by simpa using hk), Nat.zero_add, Nat.one_mul] at hm
  by_cases hlt : k < s.size
  ·have hpow : 256 ^ k ≤ 256 ^ 6 := Nat.pow_le_pow_right (by decide) (by omega)
   have hpc := Nat.pow_succ (n := 256) (m := k)
   have hsn := numFrom_snoc octK (s.data.toList.take k) s[k]
   rw [← take_snocW s k hlt, hnum] at hsn
   have hv := value_oct s[k]
   cases hd : octK.dig s[k] with
   | none =>
    have hfin : smallV octK s.data.toList = .tuple #[.int .u64 0, .int .u64 0, .bool false] := by unfold smallV; rw [numFrom_bad octK s k hlt hd]
    rw [hd] at hv
    have HV : SameRet Tryd.prog 122 #[.int .u8 (s[k].toNat : Int)] (.tuple #[.int .u64 0, .bool false]) := hv
    have HF := Lib.hid hfin
    clear hsn hpc hpow hm hnum hv hd hfin
    go_wp2_with (go_at_call 122; refine (HV _).mono ?_; rintro e w' ⟨rfl, rfl⟩)
    refine bodyPost_ret (v := .tuple #[.int .u64 0, .int .u64 0, .bool false]) (by simp [results, Tryd.results72, go_sem]) rfl ⟨by rw [HF.out], rfl⟩
   | some v =>
    rw [hd] at hv hsn
    have hvl := octK.lt _ _ hd
    have HV : SameRet Tryd.prog 122 #[.int .u8 (s[k].toNat : Int)] (.tuple #[.int .u64 (v : Int), .bool true]) := hv
    simp only [Option.bind_some, Option.map_some, octK_base] at hsn
    rw [octK_base] at hvl
    have hpI : ((256 ^ k : Nat) : Int) ≤ 281474976710656 := (by have h6 : (256 : Nat) ^ 6 = 281474976710656 := (by decide); omega)
    have hp0 : (0 : Int) ≤ ((256 ^ k : Nat) : Int) := by omega
    have hm0 : (m : Int) < ((256 ^ k : Nat) : Int) := by omega
    have HS := Lib.hid hsn
    have HP : Hid (((256 ^ (k + 1) : Nat) : Int) = ((256 ^ k : Nat) : Int) * 256) := by rw [hpc]; exact Int.natCast_mul ..
    have hv0 : (v : Int) < 256 := by omega
    have w1 : IntKind.u64.wrap ((m : Int) * 256) = (m : Int) * 256 := by rw [IntKind.wrap_u64]; omega
    have w2 : IntKind.u64.wrap ((m : Int) * 256 + v) = (m : Int) * 256 + v := by rw [IntKind.wrap_u64]; omega
    have w3 : IntKind.u64.wrap (((256 ^ k : Nat) : Int) * 256) = ((256 ^ k : Nat) : Int) * 256 := by rw [IntKind.wrap_u64]; omega
    generalize ((256 ^ k : Nat) : Int) = P at *
    clear hsn hpc hpow hm hnum hv hd hvl hp0 hm0 hpI
    go_wp2_with (go_at_call 122; refine (HV _).mono ?_; rintro e w' ⟨rfl, rfl⟩)
    go_round
    case rel => exact ⟨k + 1, m * 256 + v, rfl, by omega, HS.out, by simp, by rw [Int.natCast_add, Int.natCast_mul]; rfl, by rw [HP.out]⟩
    case measure => simp [intOf]; omega
  ·obtain rfl : k = s.size := by omega
   have hfin : smallV octK s.data.toList = .tuple #[.int .u64 (m : Int), .int .u64 ((256 ^ s.size : Nat) : Int), .bool true] := by
    have e : s.data.toList.take s.size = s.data.toList := List.take_of_length_le (by simp)
    rw [e] at hnum
    unfold smallV; rw [hnum, octK_base]; simp
   have HF := Lib.hid hfin
   generalize ((256 ^ s.size : Nat) : Int) = P at *
   clear hnum hm hfin
   go_wp2
   refine bodyPost_ret (v := .tuple #[.int .u64 (m : Int), .int .u64 P, .bool true]) (by simp [results, Tryd.results72, go_sem]) rfl ⟨by rw [HF.out], rfl⟩
end
section
open Go Go.RowKit Go.Shelf
attribute [local go_sem] Oper.semAt_some wide_fn
def piece (s : ByteArray) (k : Nat) : ByteArray := s.extract (7 * k) (min (7 * k + 7) s.size)
theorem pieces_seq (n : Nat) (hn : 1 ≤ n) (Bs : Nat) (s : ByteArray) (hs : s.size ≤ 140737488355328) (w : World) (hBs : Bs < w.heap.size) (hcB : w.cell? ⟨Bs, 0, none⟩ = some (.string s)) :
  SeqN Fence.wide n Tryd.prog 79 #[.pointer (some ⟨Bs, 0, none⟩)] (fun k => #[.string (piece s k)]) (KeepsAt [Bs]) ((s.size + 6) / 7) w := by
 intro l J Jx W hW _ _ hY h0
 have hBs' := (hW.cell (p := ⟨Bs, 0, none⟩) hBs).trans hcB
 clear hcB
 refine callsIn_of_wp Tryd.func79 rfl trivial ?_ rfl
 simp only [Tryd.ntmps79, List.size_toArray, List.length_cons, List.length_nil, Nat.reduceAdd, Nat.reduceSub, Array.replicate_succ, Array.replicate_zero, List.push_toArray, List.append_toArray, List.nil_append, List.cons_append]
 gi_wp2
 gi_loopw [3] (fun i wr => ∃ k q : Nat, k ≤ (s.size + 6) / 7 ∧ Hid (q = 7 * k) ∧ i = .int .i64 (q : Int) ∧ J k wr ∧ KeepsAt [Bs] W wr)
  (fun i _ => (s.size + 6) / 7 * 7 - (intOf i).toNat)
 case atStart => exact ⟨0, 0, Nat.zero_le _, rfl, rfl, h0, KeepsAt.refl _ _⟩
 case round =>
  obtain ⟨k, q, hk, hq, rfl, hJs, hnx⟩ := hrel
  have hbx : wr.cell? ⟨Bs, 0, none⟩ = some (.string s) := (hnx.cell (p := ⟨Bs, 0, none⟩) (by simp)).trans hBs'
  clear hBs'
  by_cases hlt : q < s.size
  ·have hkN : k < (s.size + 6) / 7 := by have := hq.out; omega
   have HK := Lib.hid hkN
   obtain ⟨fn, tmps, assign, body, hy, hR⟩ := hY k wr hkN hJs
   clear hkN hY
   by_cases hfull : q + 7 ≤ s.size
   ·have hp : piece s k = s.extract q (q + 7) := by have := hq.out; unfold piece; rw [← this, Nat.min_eq_left hfull]
    rw [hp] at hy
    clear hp
    have z1 : (q : Int) + 7 ≤ (s.size : Int) := by omega
    have z0 : (0 : Int) ≤ (q : Int) := by omega
    have z2 : (q : Int) ≤ (q : Int) + 7 := by omega
    have z3 : (0 : Int) ≤ (q : Int) + 7 := by omega
    gi_wp2
    refine hR.mono ?_
    rintro e W3 (⟨rfl, hJ3, hk3⟩ | ⟨rfl, hJx3⟩)
    ·gi_wp2
     go_roundw
     case rel => exact ⟨k + 1, q + 7, by have := hq.out; omega, by have := hq.out; show q + 7 = 7 * (k + 1); omega, by simp, hJ3, hnx.trans hk3⟩
     case measure => have := hq.out; simp [intOf]; omega
    ·gi_wp2
     refine bodyPost_ret (results_none rfl _ _ _) rfl ?_
     exact ⟨⟨_, rfl⟩, .inr ⟨k, HK.out, hJx3⟩⟩
   ·have hp : piece s k = s.extract q s.size := by have := hq.out; unfold piece; rw [← this, Nat.min_eq_right (by omega)]
    rw [hp] at hy
    clear hp
    have z1 : (s.size : Int) < (q : Int) + 7 := by omega
    have z4 : (s.size : Int) ≤ (q : Int) + 7 := by omega
    have z5 : (q : Int) + 7 ≤ 1000000000000000 := by omega
    have z0 : (0 : Int) ≤ (q : Int) := by omega
    have z2 : (q : Int) ≤ (s.size : Int) := by omega
    have z3 : (0 : Int) ≤ (s.size : Int) := by omega
    gi_wp2
    refine hR.mono ?_
    rintro e W3 (⟨rfl, hJ3, hk3⟩ | ⟨rfl, hJx3⟩)
    ·gi_wp2
     go_roundw
     case rel => exact ⟨k + 1, q + 7, by have := hq.out; omega, by have := hq.out; show q + 7 = 7 * (k + 1); omega, by simp, hJ3, hnx.trans hk3⟩
     case measure => have := hq.out; simp [intOf]; omega
    ·gi_wp2
     refine bodyPost_ret (results_none rfl _ _ _) rfl ?_
     exact ⟨⟨_, rfl⟩, .inr ⟨k, HK.out, hJx3⟩⟩
  ·have hk2 : k = (s.size + 6) / 7 := by have := hq.out; omega
   have HJ : Hid (J ((s.size + 6) / 7) wr) := by rw [← hk2]; exact hJs
   clear hJs hk2 hY
   gi_wp2
   go_end0
   exact ⟨⟨_, rfl⟩, .inl HJ.out⟩
theorem pieces_any (s : ByteArray) (w : World) :
  Calls Tryd.prog 71 #[.string s] w fun e w' => e = .returned (.func (.func 79) #[] #[.pointer (some ⟨w.heap.size, 0, none⟩)]) ∧ w' = w.alloc (.cells #[.string s] 9) := by
 go_enter Tryd.func71, Tryd.ntmps71
 go_wp2
 go_ret
 exact ⟨rfl, rfl⟩
end
section
open Go Go.RowKit Go.Shelf
attribute [local go_sem] Oper.semAt_some Grows wide_fn
theorem mul64_any (x y : Nat) (hx : x < 18446744073709551616) (hy : y < 18446744073709551616) (w : World) :
  Calls Tryd.prog 87 #[.int .u64 x, .int .u64 y] w fun e w' => e = .returned (.tuple #[.int .u64 ((x * y / 18446744073709551616 : Nat) : Int), .int .u64 ((x * y % 18446744073709551616 : Nat) : Int)]) ∧ w = w' := by
 obtain ⟨bd, bt, bw, hhi⟩ := Lib.mul64_hi x y hx hy
 have ba := Lib.half_mul_le (a := x / 4294967296) (b := y / 4294967296) (by omega) (by omega)
 have bb := Lib.half_mul_le (a := x / 4294967296) (b := y % 4294967296) (by omega) (by omega)
 have bc := Lib.half_mul_le (a := x % 4294967296) (b := y / 4294967296) (by omega) (by omega)
 have ba' : x / 4294967296 * (y / 4294967296) < 18446744073709551616 := by omega
 have bb' : x / 4294967296 * (y % 4294967296) < 18446744073709551616 := by omega
 have bc' : x % 4294967296 * (y / 4294967296) < 18446744073709551616 := by omega
 have bh1 : x / 4294967296 * (y / 4294967296) + (x / 4294967296 * (y % 4294967296) + x % 4294967296 * (y % 4294967296) / 4294967296) / 4294967296 < 18446744073709551616 := by omega
 have bh : x / 4294967296 * (y / 4294967296) + (x / 4294967296 * (y % 4294967296) + x % 4294967296 * (y % 4294967296) / 4294967296) / 4294967296 + ((x / 4294967296 * (y % 4294967296) + x % 4294967296 * (y % 4294967296) / 4294967296) % 4294967296 + x % 4294967296 * (y / 4294967296)) / 4294967296 < 18446744073709551616 := by omega
 go_enter Tryd.func87, Tryd.ntmps87
 go_wp2
 simp only [Mul64.maskN x hx, Mul64.maskN y hy, Mul64.divN, Mul64.mulN, Mul64.addN, Mul64.wrapN _ bd, Mul64.wrapN _ bb', Mul64.wrapN _ bt, Mul64.maskN _ bt, Mul64.wrapN _ bc', Mul64.wrapN _ bw, Mul64.wrapN _ ba', Mul64.wrapN _ bh1, Mul64.wrapN _ bh, Mul64.wrapM (x * y)]
 rw [hhi]
 go_ret2
 exact ⟨rfl, rfl⟩
def tpLo (x y p q : Int) : Int := (x * y + p + q) % 18446744073709551616
def tpHi (x y p q : Int) : Int := (x * y + p + q) / 18446744073709551616
theorem tp_bound (x y p q : Int) (hx : U64 x) (hy : U64 y) (hp : U64 p) (hq : U64 q) : U64 (tpLo x y p q) ∧ U64 (tpHi x y p q) := by
 unfold U64 tpLo tpHi at *
 have h1 : 0 ≤ x * y := Int.mul_nonneg hx.1 hy.1
 have h2 : x * y ≤ 18446744073709551615 * 18446744073709551615 := Int.mul_le_mul (by omega) (by omega) hy.1 (by omega)
 generalize x * y = t at *
 omega
theorem tp_join (x y p q : Int) (hx : U64 x) (hy : U64 y) (hp : U64 p) (_hq : U64 q) :
  ((x * y % 18446744073709551616 + p) % 18446744073709551616 + q) % 18446744073709551616 = tpLo x y p q ∧
  x * y / 18446744073709551616 + (x * y % 18446744073709551616 + p) / 18446744073709551616 + ((x * y % 18446744073709551616 + p) % 18446744073709551616 + q) / 18446744073709551616 = tpHi x y p q ∧
  U64 (x * y / 18446744073709551616 + (x * y % 18446744073709551616 + p) / 18446744073709551616) ∧ U64 (x * y % 18446744073709551616) ∧ U64 ((x * y % 18446744073709551616 + p) % 18446744073709551616) ∧ U64 (x * y / 18446744073709551616) := by
 unfold U64 tpLo tpHi at *
 have h1 : 0 ≤ x * y := Int.mul_nonneg hx.1 hy.1
 have h2 : x * y ≤ 18446744073709551615 * 18446744073709551615 := Int.mul_le_mul (by omega) (by omega) hy.1 (by omega)
 generalize x * y = t at *
 omega
theorem timesPlus_any (x y p q : Int) (hx : U64 x) (hy : U64 y) (hp : U64 p) (hq : U64 q) (w : World) :
  Calls Tryd.prog 81 #[.int .u64 x, .int .u64 y, .int .u64 p, .int .u64 q] w fun e w' => e = .returned (.tuple #[.int .u64 (tpLo x y p q), .int .u64 (tpHi x y p q)]) ∧ w = w' := by
 obtain ⟨e1, e2, u1, u2, u3, u4⟩ := tp_join x y p q hx hy hp hq
 obtain ⟨b1, b2⟩ := tp_bound x y p q hx hy hp hq
 have hm : ∀ w, Calls Tryd.prog 87 #[.int .u64 x, .int .u64 y] w fun e w' => e = .returned (.tuple #[.int .u64 (x * y / 18446744073709551616), .int .u64 (x * y % 18446744073709551616)]) ∧ w = w' := by
  intro w
  obtain ⟨x, rfl⟩ := Int.eq_ofNat_of_zero_le hx.1
  obtain ⟨y, rfl⟩ := Int.eq_ofNat_of_zero_le hy.1
  exact mul64_any x y (by have := hx.2; omega) (by have := hy.2; omega) w
 rw [← e2]
 rw [← e2] at b2
 rw [← e1]
 clear e1 e2 b1
 generalize x * y / 18446744073709551616 = hi at *
 generalize x * y % 18446744073709551616 = lo at *
 have r1 := fun W => run_addc lo p 0 u2 hp bit_zero W
 have r2 := fun W => run_addc ((lo + p) % 18446744073709551616) q 0 u3 hq bit_zero W
 simp only [Int.add_zero] at r1 r2
 generalize (lo + p) % 18446744073709551616 = s1 at *
 generalize (lo + p) / 18446744073709551616 = c1 at *
 generalize (s1 + q) % 18446744073709551616 = s2 at *
 generalize (s1 + q) / 18446744073709551616 = c2 at *
 have w1 : IntKind.u64.wrap (hi + c1) = hi + c1 := by rw [IntKind.wrap_u64]; unfold U64 at u1; omega
 have w2 : IntKind.u64.wrap (hi + c1 + c2) = hi + c1 + c2 := by rw [IntKind.wrap_u64]; unfold U64 at b2; omega
 have HM := Lib.hid hm
 clear hm u1 u2 u3 u4 b2 hx hy hp hq
 go_enter Tryd.func81, Tryd.ntmps81
 go_wp2_with fail
 refine (HM.out _).mono ?_
 rintro e w' ⟨rfl, rfl⟩
 go_wp2
 go_ret2
 exact ⟨rfl, rfl⟩

end
section
open Go Go.RowKit
theorem num_mul (z : Nat → Int) (f : Int) : num z * f = z 0 * f + z 1 * f * 18446744073709551616 + z 2 * f * 340282366920938463463374607431768211456 + z 3 * f * 6277101735386680763835789423207666416102355444464034512896 := by
 unfold num
 rw [Int.add_mul, Int.add_mul, Int.add_mul, Int.mul_right_comm (z 1), Int.mul_right_comm (z 2), Int.mul_right_comm (z 3)]
theorem tp_step (x y p q : Int) : tpLo x y p q + 18446744073709551616 * tpHi x y p q = x * y + p + q := Int.emod_add_mul_ediv ..
end
section
open Go Go.RowKit Go.Shelf
attribute [local go_sem] Oper.semAt_some Grows wide_fn
def sc (z : Nat → Int) (f p : Int) : Nat → Int
 | 0 => p
 | k + 1 => tpHi (z k) f (sc z f p k) 0
def so (z : Nat → Int) (f p : Int) (k : Nat) : Int := tpLo (z k) f (sc z f p k) 0
theorem u64_zero : U64 0 := ⟨by omega, by omega⟩
theorem sc_u64 (z : Nat → Int) (f p : Int) (hz : ∀ k, U64 (z k)) (hf : U64 f) (hp : U64 p) : ∀ k, U64 (sc z f p k)
 | 0 => hp
 | k + 1 => (tp_bound _ _ _ _ (hz k) hf (sc_u64 z f p hz hf hp k) u64_zero).2
theorem so_u64 (z : Nat → Int) (f p : Int) (hz : ∀ k, U64 (z k)) (hf : U64 f) (hp : U64 p) (k : Nat) : U64 (so z f p k) := (tp_bound _ _ _ _ (hz k) hf (sc_u64 z f p hz hf hp k) u64_zero).1
def scAt (z : Nat → Int) (f p : Int) (k j : Nat) : Int := if j < k then so z f p j else 0
theorem scAt_succ (z : Nat → Int) (f p : Int) (k : Nat) : scAt z f p (k + 1) = fun j => if j = k then so z f p k else scAt z f p k j := by
 funext j; unfold scAt
 by_cases h : j = k
 ·subst h; rw [if_pos (by omega), if_pos rfl]
 ·rw [if_neg h]
  by_cases h2 : j < k
  ·rw [if_pos (by omega), if_pos h2]
  ·rw [if_neg (by omega), if_neg h2]
theorem scale_num (z : Nat → Int) (f p : Int) : num (scAt z f p 4) + 115792089237316195423570985008687907853269984665640564039457584007913129639936 * sc z f p 4 = num z * f + p := by
 rw [num_mul]
 have k0 : so z f p 0 + 18446744073709551616 * sc z f p 1 = z 0 * f + sc z f p 0 + 0 := tp_step ..
 have k1 : so z f p 1 + 18446744073709551616 * sc z f p 2 = z 1 * f + sc z f p 1 + 0 := tp_step ..
 have k2 : so z f p 2 + 18446744073709551616 * sc z f p 3 = z 2 * f + sc z f p 2 + 0 := tp_step ..
 have k3 : so z f p 3 + 18446744073709551616 * sc z f p 4 = z 3 * f + sc z f p 3 + 0 := tp_step ..
 have kz : sc z f p 0 = p := rfl
 rw [kz] at k0
 have r0 : scAt z f p 4 0 = so z f p 0 := rfl
 have r1 : scAt z f p 4 1 = so z f p 1 := rfl
 have r2 : scAt z f p 4 2 = so z f p 2 := rfl
 have r3 : scAt z f p 4 3 = so z f p 3 := rfl
 unfold num
 rw [r0, r1, r2, r3]
 clear r0 r1 r2 r3 kz
 generalize so z f p 0 = o0 at *
 generalize so z f p 1 = o1 at *
 generalize so z f p 2 = o2 at *
 generalize so z f p 3 = o3 at *
 generalize sc z f p 1 = c1 at *
 generalize sc z f p 2 = c2 at *
 generalize sc z f p 3 = c3 at *
 generalize sc z f p 4 = c4 at *
 generalize z 0 * f = p0 at *
 generalize z 1 * f = p1 at *
 generalize z 2 * f = p2 at *
 generalize z 3 * f = p3 at *
 omega
theorem scale_parts (a f p : Nat) (ha : W256 a) (hf : f < 18446744073709551616) (hp : p < 18446744073709551616) : (∀ k, k < 4 → scAt (lim a) f p 4 k = lim (wmod (a * f + p)) k) ∧ sc (lim a) f p 4 = (((a * f + p) / 115792089237316195423570985008687907853269984665640564039457584007913129639936 : Nat) : Int) := by
 have uf : U64 (f : Int) := ⟨by omega, by omega⟩
 have up : U64 (p : Int) := ⟨by omega, by omega⟩
 have u : ∀ k, U64 (scAt (lim a) f p 4 k) := fun k => by
  unfold scAt; split
  ·exact so_u64 _ _ _ (lim_u64 a) uf up k
  ·exact u64_zero
 have h := scale_num (lim a) f p
 rw [num_lim a ha] at h
 have e : ((a * f + p : Nat) : Int) = a * f + p := by rw [Int.natCast_add, Int.natCast_mul]
 rw [← e] at h
 obtain ⟨n0, n1⟩ := num_lt _ (u 0) (u 1) (u 2) (u 3)
 have key : num (scAt (lim a) f p 4) = ((wmod (a * f + p) : Nat) : Int) := by
  unfold wmod
  rw [Int.natCast_emod, ← h]
  generalize num (scAt (lim a) f p 4) = t at *
  generalize sc (lim a) f p 4 = c at *
  show t = (t + 115792089237316195423570985008687907853269984665640564039457584007913129639936 * c) % 115792089237316195423570985008687907853269984665640564039457584007913129639936
  rw [Int.add_mul_emod_self_left, Int.emod_eq_of_lt n0 n1]
 have key2 : sc (lim a) f p 4 = (((a * f + p) / 115792089237316195423570985008687907853269984665640564039457584007913129639936 : Nat) : Int) := by
  rw [Int.natCast_ediv, ← h]
  generalize num (scAt (lim a) f p 4) = t at *
  generalize sc (lim a) f p 4 = c at *
  show c = (t + 115792089237316195423570985008687907853269984665640564039457584007913129639936 * c) / 115792089237316195423570985008687907853269984665640564039457584007913129639936
  rw [Int.add_mul_ediv_left _ _ (by decide), Int.ediv_eq_zero_of_lt n0 n1, Int.zero_add]
 obtain ⟨g0, g1, g2, g3⟩ := lim_num _ _ (u 0) (u 1) (u 2) (u 3) key
 refine ⟨fun k hk => ?_, key2⟩
 match k, hk with
 | 0, _ => exact g0.symm
 | 1, _ => exact g1.symm
 | 2, _ => exact g2.symm
 | 3, _ => exact g3.symm
def ScSt (w : World) (ba : Nat) (z : Nat → Int) (f p : Int) (k : Nat) (W : World) : Prop :=
 (Boxed W w.heap.size 35 (.int .u64 f) ∧ Boxed W (w.heap.size + 1) 35 (.int .u64 (sc z f p k)) ∧ Arr4 W (w.heap.size + 1 + 1) 37 (fun _ => 0) ∧ Arr4 W (w.heap.size + 1 + 1 + 1) 37 (scAt z f p k) ∧
  Boxed W (w.heap.size + 1 + 1 + 1 + 1) 108 (.pointer (some ⟨ba, 0, none⟩))) ∧ Below w.heap.size w W
theorem ScSt.own (w : World) (ba : Nat) (z : Nat → Int) (f p : Int) (B : Nat) (hB : w.heap.size ≤ B) : OwnFrom B (fun k W => ScSt w ba z f p k W) :=
 OwnFrom.and (Own.from (fun s X Y row hs hg hr => ⟨boxed_own _ _ (fun _ : Nat => _) s X Y row hs.1 hg hr, boxed_own _ _ (fun k : Nat => Value.int .u64 (sc z f p k)) s X Y row hs.2.1 hg hr, Arr4.own _ _ (fun _ : Nat => fun _ => 0) s X Y row hs.2.2.1 hg hr,
  Arr4.own _ _ (fun k : Nat => scAt z f p k) s X Y row hs.2.2.2.1 hg hr, boxed_own _ _ (fun _ : Nat => _) s X Y row hs.2.2.2.2 hg hr⟩) _) (ownFrom_below (Nat.le_refl _) hB)
theorem scale_any (z : Nat → Int) (f p : Int) (hz : ∀ k, U64 (z k)) (hf : U64 f) (hp : U64 p) (ba : Nat) (w : World) (hba : ba < w.heap.size) (hA : ∀ j, j < 4 → w.cell? ⟨ba, j, none⟩ = some (.int .u64 (z j))) :
  Calls Tryd.prog 73 #[.pointer (some ⟨ba, 0, none⟩), .int .u64 f, .int .u64 p] w fun e w' =>
   e = .returned (.tuple #[.agg #[.int .u64 (scAt z f p 4 0), .int .u64 (scAt z f p 4 1), .int .u64 (scAt z f p 4 2), .int .u64 (scAt z f p 4 3)], .int .u64 (sc z f p 4)]) ∧ Below w.heap.size w w' := by
 have h1 : 1 ≤ 3 := by omega
 refine (callsIn_wide (n := 3)).1 ?_
 refine callsIn_of_wp_marks Tryd.func73 rfl trivial ?_ rfl
 simp only [Tryd.ntmps73, List.size_toArray, List.length_cons, List.length_nil, Nat.reduceAdd, Nat.reduceSub, Array.replicate_succ, Array.replicate_zero, List.push_toArray, List.append_toArray, List.nil_append, List.cons_append]
 gi_wp2_with (gi_at_call 80; refine (callsIn_free free_wide (parts_any _ _)).mono ?_; rintro e w' ⟨rfl, rfl⟩)
 obtain ⟨W0, hW0⟩ : ∃ W0, (((((w.alloc (.cells #[.int .u64 f] 35)).alloc (.cells #[.int .u64 p] 35)).alloc (.cells #[.int .u64 0, .int .u64 0, .int .u64 0, .int .u64 0] 37)).alloc (.cells #[.int .u64 0, .int .u64 0, .int .u64 0, .int .u64 0] 37)).alloc (.cells #[.pointer (some ⟨ba, 0, none⟩)] 108)) = W0 := ⟨_, rfl⟩
 have hsz : W0.heap.size = w.heap.size + 5 := by rw [← hW0]; simp
 have hJ0 : ScSt w ba z f p 0 W0 := by
  rw [← hW0]
  refine ⟨⟨?_, ?_, ?_, ?_, ?_⟩, (((((Below.refl _ w).alloc (Nat.le_refl _) _).alloc (by simp) _).alloc (by simp; omega) _).alloc (by simp; omega) _).alloc (by simp; omega) _⟩
  ·exact ((((Boxed.new w _ _).alloc _).alloc _).alloc _).alloc _
  ·have h := Boxed.new (w.alloc (.cells #[.int .u64 f] 35)) 35 (.int .u64 p)
   rw [World.size_alloc] at h
   exact ((h.alloc _).alloc _).alloc _
  ·have h := World.alloc_heap_new ((w.alloc (.cells #[.int .u64 f] 35)).alloc (.cells #[.int .u64 p] 35)) (.cells #[.int .u64 0, .int .u64 0, .int .u64 0, .int .u64 0] 37)
   rw [World.size_alloc, World.size_alloc] at h
   exact (Arr4.alloc (m := fun _ => 0) h _).alloc _
  ·have h := World.alloc_heap_new (((w.alloc (.cells #[.int .u64 f] 35)).alloc (.cells #[.int .u64 p] 35)).alloc (.cells #[.int .u64 0, .int .u64 0, .int .u64 0, .int .u64 0] 37)) (.cells #[.int .u64 0, .int .u64 0, .int .u64 0, .int .u64 0] 37)
   rw [World.size_alloc, World.size_alloc, World.size_alloc] at h
   exact Arr4.alloc (m := scAt z f p 0) h _
  ·have h := Boxed.new ((((w.alloc (.cells #[.int .u64 f] 35)).alloc (.cells #[.int .u64 p] 35)).alloc (.cells #[.int .u64 0, .int .u64 0, .int .u64 0, .int .u64 0] 37)).alloc (.cells #[.int .u64 0, .int .u64 0, .int .u64 0, .int .u64 0] 37)) 108 (.pointer (some ⟨ba, 0, none⟩))
   simpa using h
 rw [hW0]
 clear hW0
 have hA' : ∀ j, j < 4 → W0.cell? ⟨ba, j, none⟩ = some (.int .u64 (z j)) := fun j hj => (hJ0.2.cell (p := ⟨ba, j, none⟩) hba).trans (hA j hj)
 refine wpIn_rangeFunc_N1 rfl h1 (gf := 86) (lb := #[.pointer (some ⟨w.heap.size + 1 + 1 + 1 + 1, 0, none⟩)]) rfl trivial (enters_of Tryd.func86 (by kernel_rfl) rfl)
  (parts_seq _ (by omega) _ ba z W0 (by omega) (by omega) hJ0.1.2.2.2.2.cell hA') KeepsAt.trans (KeepsAt.refl _) (KeepsAt.b (by simp; omega)) (fun _ _ => rfl)
  (fun k W => ScSt w ba z f p k W)
  (fun _ _ _ => False)
  (ScSt.own w ba z f p _ (by omega))
  (fun _ _ _ _ _ hs _ _ => hs)
  hJ0
  (fun k => { tmps := #[.pointer (some ⟨ba, 0, none⟩), .int .u64 f, .int .u64 p, undef, .pointer (some ⟨w.heap.size, 0, none⟩), .pointer (some ⟨w.heap.size + 1, 0, none⟩), .pointer (some ⟨w.heap.size + 1 + 1, 0, none⟩), .int .u64 0, .pointer (some ⟨w.heap.size + 1 + 1 + 1, 0, none⟩), .int .i64 (k : Int), .int .u64 (z k), .agg #[.int .u64 0, .int .u64 0, .int .u64 0, .int .u64 0], .pointer (some ⟨ba, 0, none⟩), .func (.func 86) #[] #[.pointer (some ⟨w.heap.size + 1 + 1 + 1 + 1, 0, none⟩)], .int .i64 (k : Int), .int .u64 (z k), undef, undef, undef, undef, undef, undef, undef, undef, undef, undef, undef], defers := [] }) ?assign ?body ?done ?stop
 case assign =>
  intro l k W K _ hK
  gi_wp2
  exact hK
 case body =>
  rintro l k W _ hk4 ⟨⟨b4, b5, b6, b8, bP⟩, hB⟩
  have hk0 : (0 : Int) ≤ (k : Int) := by omega
  have hkI : (k : Int) < 4 := by omega
  have hcall := timesPlus_any (z k) f (sc z f p k) 0 (hz k) hf (sc_u64 z f p hz hf hp k) u64_zero
  have c4 := b4.cell
  have c5 := b5.cell
  have f5 := b5.frozen
  have f8 := b8.frozen k
  have c8 := b8.cell hk4
  have hl5 := b5.lt
  have hl8 := b8.lt
  have hlP := bP.lt
  have hsW := hB.size
  have HR := Lib.hid (scAt_succ z f p k)
  have HC : Hid (sc z f p (k + 1) = tpHi (z k) f (sc z f p k) 0) := rfl
  have HO : Hid (so z f p k = tpLo (z k) f (sc z f p k) 0) := rfl
  have HB := Lib.hid (show ScSt w ba z f p k W from ⟨⟨b4, b5, b6, b8, bP⟩, hB⟩)
  clear hz hf hp hA hA' hJ0 b4 b5 b6 b8 bP hB
  gi_wp2_with (gi_at_call 81; refine (callsIn_free (free_round l) (hcall _)).mono ?_; rintro e w' ⟨rfl, rfl⟩)
  obtain ⟨⟨b4, b5, b6, b8, bP⟩, hB⟩ := HB.out
  refine ⟨((KeepsOthers.setCell _ _ _).from _).trans ((KeepsOthers.setCell _ _ _).from _), ((KeepsAt.refl _ _).setCell (by simp; omega) _).setCell (by simp; omega) _, ⟨?_, ?_, ?_, ?_, ?_⟩, (hB.setCell (p := ⟨w.heap.size + 1 + 1 + 1, k, none⟩) (by simp; omega) _).setCell (p := ⟨w.heap.size + 1, 0, none⟩) (by simp) _⟩
  ·exact Boxed.away (Boxed.away b4 (by first | omega | (simp; done) | (simp; omega)) _) (by first | omega | (simp; done) | (simp; omega)) _
  ·rw [HC.out]; exact Boxed.set _ (Boxed.away b5 (by first | omega | (simp; done) | (simp; omega)) _)
  ·exact Arr4.other (Arr4.other b6 (by first | omega | (simp; done) | (simp; omega)) _) (by first | omega | (simp; done) | (simp; omega)) _
  ·rw [HR.out, HO.out]; exact Arr4.other (Arr4.set b8 hk4 _) (by first | omega | (simp; done) | (simp; omega)) _
  ·exact Boxed.away (Boxed.away bP (by first | omega | (simp; done) | (simp; omega)) _) (by first | omega | (simp; done) | (simp; omega)) _
 case done =>
  rintro D W hD ⟨⟨b4, b5, b6, b8, bP⟩, hB⟩ hK
  have hmx : Tryd.prog.follows .mixedOrders = true := by kernel_rfl
  have c5 := b5.cell
  have c0 := b6.cell (j := 0) (by omega)
  have c1 := b6.cell (j := 1) (by omega)
  have c2 := b6.cell (j := 2) (by omega)
  have c3 := b6.cell (j := 3) (by omega)
  have f0 := b6.frozen 0
  have f1 := b6.frozen 1
  have f2 := b6.frozen 2
  have f3 := b6.frozen 3
  have d0 := b8.cell (j := 0) (by omega)
  have d1 := b8.cell (j := 1) (by omega)
  have d2 := b8.cell (j := 2) (by omega)
  have d3 := b8.cell (j := 3) (by omega)
  have HB2 := Lib.hid b6
  have HBe := Lib.hid hB
  have HK := Lib.hid hK
  clear b4 b5 b6 b8 bP hB hK hJ0 hA hA' hz hf hp
  gi_wp2
  gi_region_o
  all_goals gi_wp2
  all_goals
   have hK' := (((((KeepsOthers.setCell W ⟨w.heap.size + 1 + 1, 0, none⟩ (.int .u64 (scAt z f p 4 0))).trans (KeepsOthers.setCell _ ⟨w.heap.size + 1 + 1, 1, none⟩ (.int .u64 (scAt z f p 4 1)))).trans (KeepsOthers.setCell _ ⟨w.heap.size + 1 + 1, 2, none⟩ (.int .u64 (scAt z f p 4 2)))).trans (KeepsOthers.setCell _ ⟨w.heap.size + 1 + 1, 3, none⟩ (.int .u64 (scAt z f p 4 3)))).trans (KeepsOthers.drew _)).same D _ HK.out rfl
   have b9 := (HB2.out.store (scAt z f p 4)).drew
   refine ⟨by simp, .inl ⟨_, _, rfl, run_takeDeferred hK', ?_⟩⟩
   have b9' := Arr4.kept b9 (grownBy_putObj' _ D (.deferred none)) (fun e => by cases e; have := (show _ = _ from b9).symm.trans hK'; cases this)
   have e0 := b9'.cell (j := 0) (by omega)
   have e1 := b9'.cell (j := 1) (by omega)
   have e2 := b9'.cell (j := 2) (by omega)
   have e3 := b9'.cell (j := 3) (by omega)
   exact ⟨_, by simp [results, Tryd.f73, go_sem, e0, e1, e2, e3], rfl,
    (((((HBe.out.setCell (p := ⟨w.heap.size + 1 + 1, 0, none⟩) (by simp; omega) _).setCell (p := ⟨w.heap.size + 1 + 1, 1, none⟩) (by simp; omega) _).setCell (p := ⟨w.heap.size + 1 + 1, 2, none⟩) (by simp; omega) _).setCell (p := ⟨w.heap.size + 1 + 1, 3, none⟩) (by simp; omega) _).drew).trans (belowK_b (w := w) (Nat.le_refl _) _ D _ _ (by omega) hK' rfl rfl)⟩
 case stop =>
  rintro D c k W _ _ h _
  exact h.elim
end
section
open Go Go.RowKit
theorem extract_list (s : ByteArray) (a b : Nat) : (s.extract a b).data.toList = (s.data.toList.drop a).take (b - a) := by
 rw [ByteArray.data_extract, Array.toList_extract, List.extract_eq_take_drop]
theorem piece_list (s : ByteArray) (k : Nat) : (piece s k).data.toList = (s.data.toList.drop (7 * k)).take 7 := by
 unfold piece
 rw [extract_list]
 have hl : (s.data.toList.drop (7 * k)).length = s.size - 7 * k := by simp
 by_cases h : 7 * k + 7 ≤ s.size
 ·rw [Nat.min_eq_left h, show 7 * k + 7 - 7 * k = 7 by omega]
 ·rw [Nat.min_eq_right (by omega), List.take_of_length_le (by rw [hl]; omega), List.take_of_length_le (by rw [hl]; omega)]
theorem piece_take (s : ByteArray) (k : Nat) : s.data.toList.take (7 * (k + 1)) = s.data.toList.take (7 * k) ++ (piece s k).data.toList := by
 rw [piece_list, show 7 * (k + 1) = 7 * k + 7 by omega, List.take_add]
theorem piece_size (s : ByteArray) (k : Nat) : (piece s k).size ≤ 7 := by
 have h : (piece s k).data.toList.length ≤ 7 := by rw [piece_list]; exact List.length_take_le _ _
 simpa using h
def numV (K : Kind) (l : List UInt8) : Value := match numFrom K 0 l with
 | some n => if n < 115792089237316195423570985008687907853269984665640564039457584007913129639936 then .tuple #[.agg #[.int .u64 (lim n 0), .int .u64 (lim n 1), .int .u64 (lim n 2), .int .u64 (lim n 3)], .bool true] else .tuple #[.agg #[.int .u64 0, .int .u64 0, .int .u64 0, .int .u64 0], .bool false]
 | none => .tuple #[.agg #[.int .u64 0, .int .u64 0, .int .u64 0, .int .u64 0], .bool false]
theorem numV_bad (K : Kind) (l : List UInt8) (t : Nat) (h : numFrom K 0 (l.take t) = none) : numV K l = .tuple #[.agg #[.int .u64 0, .int .u64 0, .int .u64 0, .int .u64 0], .bool false] := by
 have e : numFrom K 0 l = none := by
  rw [← List.take_append_drop t l, numFrom_append, h]; rfl
 unfold numV; rw [e]
theorem numV_great (K : Kind) (l : List UInt8) (t m : Nat) (h : numFrom K 0 (l.take t) = some m) (hm : ¬ m < 115792089237316195423570985008687907853269984665640564039457584007913129639936) : numV K l = .tuple #[.agg #[.int .u64 0, .int .u64 0, .int .u64 0, .int .u64 0], .bool false] := by
 have e : numFrom K 0 l = (numFrom K 0 (l.drop t)).map fun x => m * K.base ^ (l.drop t).length + x := by
  conv => lhs; rw [← List.take_append_drop t l]
  rw [numFrom_append, h]
  exact numFrom_zero K _ m
 unfold numV
 cases hd : numFrom K 0 (l.drop t) with
 | none => rw [e, hd]; rfl
 | some x =>
  rw [e, hd]
  simp only [Option.map_some]
  rw [if_neg]
  have h1 : 1 ≤ K.base ^ (l.drop t).length := Nat.one_le_pow _ _ (by have := K.pos; omega)
  have h2 : m * 1 ≤ m * K.base ^ (l.drop t).length := Nat.mul_le_mul_left _ h1
  omega
theorem numV_good (K : Kind) (l : List UInt8) (m : Nat) (h : numFrom K 0 l = some m) (hm : W256 m) : numV K l = .tuple #[.agg #[.int .u64 (lim m 0), .int .u64 (lim m 1), .int .u64 (lim m 2), .int .u64 (lim m 3)], .bool true] := by
 unfold numV; rw [h]; exact if_pos hm
theorem numFrom_piece (K : Kind) (s : ByteArray) (k m n : Nat) (h : numFrom K 0 (s.data.toList.take (7 * k)) = some m) (hn : numFrom K 0 (piece s k).data.toList = some n) :
  numFrom K 0 (s.data.toList.take (7 * (k + 1))) = some (m * K.base ^ (piece s k).data.toList.length + n) := by
 rw [piece_take, numFrom_append, h]
 show numFrom K m _ = _
 rw [numFrom_zero, hn]; rfl
theorem numFrom_piece_none (K : Kind) (s : ByteArray) (k m : Nat) (h : numFrom K 0 (s.data.toList.take (7 * k)) = some m) (hn : numFrom K 0 (piece s k).data.toList = none) :
  numFrom K 0 (s.data.toList.take (7 * (k + 1))) = none := by
 rw [piece_take, numFrom_append, h]
 show numFrom K m _ = _
 rw [numFrom_zero, hn]; rfl
theorem unit_lt (K : Kind) (s : ByteArray) (k : Nat) : K.base ^ (piece s k).data.toList.length < 18446744073709551616 := by
 have h1 : (piece s k).data.toList.length ≤ 7 := by have := piece_size s k; simpa using this
 have h2 : K.base ^ (piece s k).data.toList.length ≤ 256 ^ (piece s k).data.toList.length := Nat.pow_le_pow_left K.top _
 have h3 : 256 ^ (piece s k).data.toList.length ≤ 256 ^ 7 := Nat.pow_le_pow_right (by decide) h1
 have h4 : (256 : Nat) ^ 7 < 18446744073709551616 := by decide
 omega
theorem small_lt (K : Kind) (s : ByteArray) (k n : Nat) (hn : numFrom K 0 (piece s k).data.toList = some n) : n < 18446744073709551616 := by
 have h := numFrom_lt K _ _ _ hn
 have := unit_lt K s k
 omega
end
end Go.Proofs.YthcmfadofogfaaaDoor
