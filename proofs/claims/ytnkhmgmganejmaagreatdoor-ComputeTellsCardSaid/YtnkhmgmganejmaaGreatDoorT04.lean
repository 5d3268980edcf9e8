/- Part. -/
import Derived.RangeFuncNested
import Derived.RangeFuncBound
import Derived.RangeFuncCalls
import Derived.RangeFuncLeaves
import Derived.RangeFuncBox
import Derived.Test.YtnkhmgmganejmaaGreatDoorT01
import Derived.Test.YtnkhmgmganejmaaGreatDoorT03
set_option maxRecDepth 100000
set_option maxHeartbeats 16000000
namespace Go.Proofs.YtnkhmgmganejmaaGreatDoor
section
open Go Go.RowKit
def SeqN (F : Fence) (n : Nat) (P : Program) (g : Nat) (lb : Array Value) (enc : Nat → Array Value) (Kp : World → World → Prop) (N : Nat) (w : World) : Prop :=
 ∀ (l : Nat) (J Jx : Nat → World → Prop) (W : World), Below w.heap.size w W → AbidesFrom W.heap.size J → AbidesFrom W.heap.size Jx →
  (∀ k W1, k < N → J k W1 → YieldAt F (n - 1) P l (enc k) W1 fun e W' =>
   (e = .returned (.bool true) ∧ J (k + 1) W' ∧ Kp W1 W') ∨ (e = .returned (.bool false) ∧ Jx k W')) →
  J 0 W →
  CallsIn F n P g (#[.func (.yield l) #[] #[]] ++ lb) W fun e W' => (∃ v, e = .returned v) ∧ (J N W' ∨ ∃ k, k < N ∧ Jx k W')
def roundN (B : Nat) (Kp : World → World → Prop) (I : Nat → World → Prop) (Ix : Code → Nat → World → Prop) (k : Nat) (W : World) : Exit → Act → World → Prop
 | .normal, _, W' => KeepsFrom B W W' ∧ Kp W W' ∧ I (k + 1) W'
 | .ret, _, W' => KeepsFrom B W W' ∧ Ix .ret k W'
 | .exit id, _, W' => KeepsFrom B W W' ∧ Ix (.exit id) k W'
 | .goto t, _, W' => KeepsFrom B W W' ∧ Ix (.goto t) k W'
 | .panic _, _, _ => False
 | .outgrown, _, _ => False
variable {F : Fence} {n : Nat} {P : Program}
theorem wpIn_rangeFunc_N {g : Operand} {ps : Array Tmp} {assign body : Code} {Q : Exit → Act → World → Prop} {a : Act} {w : World}
  (hro : F.round = none) (h1 : 1 ≤ n) {gf : Nat} {lb : Array Value} (hg : a.eval g = .func (.func gf) #[] lb) (hFg : F.fn gf) (eg : ∀ args w, (callFunc gf args).run P w = .ok (.enter gf args) w)
  {enc : Nat → Array Value} {Kp : World → World → Prop} {N : Nat} (hseq : SeqN F (n - 1) P gf lb enc Kp N w)
  (hKt : ∀ {A B C : World}, Kp A B → Kp B C → Kp A C) (hKb : ∀ (W : World) (l : Nat) (o o' : Obj), w.heap.size ≤ l → W.heap[l]? = some o → o.isCells = false → o.isWalk = false → Kp W (W.putObj l o')) (hps : ∀ k, k < N → (enc k).size = ps.size)
  (I : Nat → World → Prop) (Ix : Code → Nat → World → Prop) (hI : OwnFrom w.heap.size I) (hIx : ∀ c, OwnFrom w.heap.size (Ix c)) (h0 : I 0 w) (Ax : Nat → Act → World → Prop) (hAx : ∀ k a', OwnFrom w.heap.size (fun (_ : Unit) W => Ax k a' W))
  (hassign : ∀ (l k : Nat) (W : World) (K : Act → World → Prop), k < N → I k W → (∀ a' W', KeepsFrom w.heap.size W W' → Kp W W' → I k W' → Ax k a' W' → K a' W') →
   assign.wpIn (F.inRound l) (n - 1 - 1) P (Exit.then K (fun _ _ _ => False)) { tmps := (ps.zip (enc k)).foldl (fun t (p, v) => t.setIfInBounds p v) a.tmps, defers := [] } W)
  (hbody : ∀ (l k : Nat) (a' : Act) (W : World), w.heap.size ≤ l → (∃ r, W.heap[l]? = some (.loop r)) → k < N → I k W → Ax k a' W → body.wpIn (F.inRound l) (n - 1 - 1) P (roundN w.heap.size Kp I Ix k W) a' W)
  (hdone : ∀ (D : Nat) (W : World), w.heap.size ≤ D → I N W → W.heap[D]? = some (.deferred (some [])) → Q .normal { a with defers := { target := .collected D, args := #[] } :: a.defers } W)
  (hstop : ∀ (D : Nat) (c : Code) (k : Nat) (W : World), w.heap.size ≤ D → k < N → Ix c k W → W.heap[D]? = some (.deferred (some [])) → c.wpIn F n P Q { a with defers := { target := .collected D, args := #[] } :: a.defers } W) :
  (Code.rangeFunc g ps assign body).wpIn F n P Q a w := by
 refine wpIn_rangeFunc ?_
 intro fn hfn
 rw [hro]
 obtain ⟨rec, hrec⟩ : ∃ rec : LoopState → Option Code → Loop, rec = fun st pe => { state := st, pending := pe, fn, tmps := a.tmps, params := ps, assign, body, defers := w.heap.size } := ⟨_, rfl⟩
 obtain ⟨W1, hW1⟩ : ∃ W1, (w.alloc (.deferred (some []))).alloc (.loop (rec .ready none)) = W1 := ⟨_, rfl⟩
 have hL1 : W1.heap[w.heap.size + 1]? = some (.loop (rec .ready none)) := by
  rw [← hW1]; have := World.alloc_heap_new (w.alloc (.deferred (some []))) (.loop (rec .ready none)); rwa [World.size_alloc] at this
 have hK1 : W1.heap[w.heap.size]? = some (.deferred (some [])) := by
  rw [← hW1]; exact (Below.heap_alloc _ _ _ (by simp)).trans (World.alloc_heap_new w _)
 have hI1 : I 0 W1 := by rw [← hW1]; exact hI.alloc _ (hI.alloc _ h0)
 have hb1 : Below w.heap.size w W1 := by
  rw [← hW1]; exact ((Below.refl _ w).alloc (Nat.le_refl _) _).alloc (by simp) _
 refine ⟨w.heap.size + 1, [{ target := .collected w.heap.size, args := #[] }], W1, { target := .fn (.func gf) lb, args := #[.func (.yield (w.heap.size + 1)) #[] #[]] }, W1, gf,
  #[.func (.yield (w.heap.size + 1)) #[] #[]] ++ lb, W1, ?_, ?_, ?_, ?_, fun _ => h1, ?_⟩
 ·rw [← hW1, hrec]; exact run_enterLoop_outer _ _ _ _ _
 ·simp only [resolve, hg]
  simp [go_sem]
 ·intro f' hf'; simp [Target.leads] at hf'; subst hf'; exact hFg
 ·simp [invoke, go_sem, eg]
 ·have hnw : ∀ {A B : World} {row : Option Nat}, (∀ r, row = some r → W1.heap.size ≤ r ∧ ∃ o : Obj, A.heap[r]? = some o ∧ o.isWalk = true) → (∀ r, row = some r → w.heap.size ≤ r ∧ ∃ o : Obj, A.heap[r]? = some o ∧ o.isCells = false) :=
   fun hr r e => by obtain ⟨hB, o, ho, hw⟩ := hr r e; exact ⟨by rw [← hW1] at hB; simp at hB; omega, o, ho, Obj.not_cells_of_walk hw⟩
  refine (hseq (w.heap.size + 1)
   (fun k W => I k W ∧ W.heap[w.heap.size + 1]? = some (.loop (rec .ready none)) ∧ W.heap[w.heap.size]? = some (.deferred (some [])))
   (fun k W => ∃ c, Ix c k W ∧ W.heap[w.heap.size + 1]? = some (.loop (rec .done (some c))) ∧ W.heap[w.heap.size]? = some (.deferred (some [])))
   W1 hb1
   (fun s A B row hs hg' hr => ⟨hI s A B row hs.1 hg' (hnw (B := B) hr), (grownBy_keeps hg' (fun r e => (hr r e).2) hs.2.1 rfl).trans hs.2.1, (grownBy_keeps hg' (fun r e => (hr r e).2) hs.2.2 rfl).trans hs.2.2⟩)
   (fun s A B row hs hg' hr => by
    obtain ⟨c, hc, hl, hk⟩ := hs
    exact ⟨c, hIx c s A B row hc hg' (hnw (B := B) hr), (grownBy_keeps hg' (fun r e => (hr r e).2) hl rfl).trans hl, (grownBy_keeps hg' (fun r e => (hr r e).2) hk rfl).trans hk⟩)
   ?_ ⟨hI1, hL1, hK1⟩).mono ?_
  ·rintro k W hkN ⟨hi, hl, hk⟩
   have hlt : w.heap.size + 1 < W.heap.size := (Array.getElem?_eq_some_iff.1 hl).1
   have hy := run_yield (P := P) (args := enc k) hl (by rw [hrec]; exact hps k hkN)
   rw [hrec] at hy
   refine ⟨fn, _, assign, body, hy, roundIn_of_wpIn hfn (hassign _ k W _ hkN hi ?_)⟩
   clear hy
   intro a' Wa hkfa hkpa hia hax
   replace hl := hkfa.same _ _ (by omega) hl rfl
   replace hk := hkfa.same _ _ (Nat.le_refl _) hk rfl
   replace hlt : w.heap.size + 1 < Wa.heap.size := (Array.getElem?_eq_some_iff.1 hl).1
   refine ⟨_, run_beginRound hl (by rw [hrec]), ?_⟩
   have hl2 : (Wa.putObj (w.heap.size + 1) (.loop { rec .ready none with state := .busy })).heap[w.heap.size + 1]? = some (.loop { rec .ready none with state := .busy }) := World.putObj_heap_same hlt
   have hk2 : (Wa.putObj (w.heap.size + 1) (.loop { rec .ready none with state := .busy })).heap[w.heap.size]? = some (.deferred (some [])) := (World.putObj_heap_other (by omega)).trans hk
   have hw2 : Kp Wa (Wa.putObj (w.heap.size + 1) (.loop { rec .ready none with state := .busy })) := hKb _ _ _ _ (by omega) hl rfl rfl
   refine wpIn_mono (hbody _ k a' _ (by omega) ⟨_, hl2⟩ hkN (hI.putObj _ hia (by omega) hl rfl) ((hAx k a').putObj (s := ()) _ hax (by omega) hl rfl)) ?_
   have fin : ∀ (jump : Option Code) (W3 : World), KeepsFrom w.heap.size (Wa.putObj (w.heap.size + 1) (.loop { rec .ready none with state := .busy })) W3 →
     (Instr.endRound (w.heap.size + 1) jump).run P W3 = .ok (.bool jump.isNone) (W3.putObj (w.heap.size + 1) (.loop (rec (if jump.isNone then .ready else .done) jump))) ∧
     W3.heap[w.heap.size + 1]? = some (.loop { rec .ready none with state := .busy }) ∧
     (W3.putObj (w.heap.size + 1) (.loop (rec (if jump.isNone then .ready else .done) jump))).heap[w.heap.size + 1]? = some (.loop (rec (if jump.isNone then .ready else .done) jump)) ∧
     (W3.putObj (w.heap.size + 1) (.loop (rec (if jump.isNone then .ready else .done) jump))).heap[w.heap.size]? = some (.deferred (some [])) := fun jump W3 hk3 => by
    have hl3 := hk3.same _ _ (by omega) hl2 rfl
    have := run_endRound (P := P) jump hl3
    rw [hrec] at this ⊢
    exact ⟨this, by rw [hrec] at hl3; exact hl3, World.putObj_heap_same (Array.getElem?_eq_some_iff.1 hl3).1, (World.putObj_heap_other (by omega)).trans (hk3.same _ _ (Nat.le_refl _) hk2 rfl)⟩
   rintro e a3 W3 hp
   cases e with
   | normal =>
    obtain ⟨hk3, hkp3, hi3⟩ := hp
    obtain ⟨hr, hl3, hl4, hk4⟩ := fin none W3 hk3
    exact ⟨_, _, hr, .inl ⟨rfl, ⟨hI.putObj _ hi3 (by omega) hl3 rfl, hl4, hk4⟩, hKt hkpa (hKt (hKt hw2 hkp3) (hKb _ _ _ _ (by omega) hl3 rfl rfl))⟩⟩
   | ret =>
    obtain ⟨hk3, hi3⟩ := hp
    obtain ⟨hr, hl3, hl4, hk4⟩ := fin (some .ret) W3 hk3
    exact ⟨_, _, hr, .inr ⟨rfl, .ret, (hIx _).putObj _ hi3 (by omega) hl3 rfl, hl4, hk4⟩⟩
   | exit id =>
    obtain ⟨hk3, hi3⟩ := hp
    obtain ⟨hr, hl3, hl4, hk4⟩ := fin (some (.exit id)) W3 hk3
    exact ⟨_, _, hr, .inr ⟨rfl, .exit id, (hIx _).putObj _ hi3 (by omega) hl3 rfl, hl4, hk4⟩⟩
   | goto t =>
    obtain ⟨hk3, hi3⟩ := hp
    obtain ⟨hr, hl3, hl4, hk4⟩ := fin (some (.goto t)) W3 hk3
    exact ⟨_, _, hr, .inr ⟨rfl, .goto t, (hIx _).putObj _ hi3 (by omega) hl3 rfl, hl4, hk4⟩⟩
   | panic ch => exact hp.elim
   | outgrown => exact hp.elim
  ·rintro e W2 ⟨⟨v, rfl⟩, (⟨hi, hl, hk⟩ | ⟨k, hkN, c, hi, hl, hk⟩)⟩
   ·exact ⟨none, _, by have := run_endLoop (P := P) hl (by rw [hrec]; simp); rw [hrec] at this; exact this, hdone _ _ (Nat.le_refl _) (hI.putObj _ hi (by omega) hl rfl) ((World.putObj_heap_other (by omega)).trans hk)⟩
   ·exact ⟨some c, _, by have := run_endLoop (P := P) hl (by rw [hrec]; simp); rw [hrec] at this; exact this, hstop _ c k _ (Nat.le_refl _) hkN ((hIx c).putObj _ hi (by omega) hl rfl) ((World.putObj_heap_other (by omega)).trans hk)⟩
theorem wpIn_rangeFunc_N1 {g : Operand} {ps : Array Tmp} {assign body : Code} {Q : Exit → Act → World → Prop} {a : Act} {w : World}
  (hro : F.round = none) (h1 : 1 ≤ n) {gf : Nat} {lb : Array Value} (hg : a.eval g = .func (.func gf) #[] lb) (hFg : F.fn gf) (eg : ∀ args w, (callFunc gf args).run P w = .ok (.enter gf args) w)
  {enc : Nat → Array Value} {Kp : World → World → Prop} {N : Nat} (hseq : SeqN F (n - 1) P gf lb enc Kp N w)
  (hKt : ∀ {A B C : World}, Kp A B → Kp B C → Kp A C) (hKr : ∀ W, Kp W W) (hKb : ∀ (W : World) (l : Nat) (o o' : Obj), w.heap.size ≤ l → W.heap[l]? = some o → o.isCells = false → o.isWalk = false → Kp W (W.putObj l o')) (hps : ∀ k, k < N → (enc k).size = ps.size)
  (I : Nat → World → Prop) (Ix : Code → Nat → World → Prop) (hI : OwnFrom w.heap.size I) (hIx : ∀ c, OwnFrom w.heap.size (Ix c)) (h0 : I 0 w) (a₁ : Nat → Act)
  (hassign : ∀ (l k : Nat) (W : World) (K : Act → World → Prop), k < N → K (a₁ k) W →
   assign.wpIn (F.inRound l) (n - 1 - 1) P (Exit.then K (fun _ _ _ => False)) { tmps := (ps.zip (enc k)).foldl (fun t (p, v) => t.setIfInBounds p v) a.tmps, defers := [] } W)
  (hbody : ∀ (l k : Nat) (W : World), w.heap.size ≤ l → k < N → I k W → body.wpIn (F.inRound l) (n - 1 - 1) P (roundN w.heap.size Kp I Ix k W) (a₁ k) W)
  (hdone : ∀ (D : Nat) (W : World), w.heap.size ≤ D → I N W → W.heap[D]? = some (.deferred (some [])) → Q .normal { a with defers := { target := .collected D, args := #[] } :: a.defers } W)
  (hstop : ∀ (D : Nat) (c : Code) (k : Nat) (W : World), w.heap.size ≤ D → k < N → Ix c k W → W.heap[D]? = some (.deferred (some [])) → c.wpIn F n P Q { a with defers := { target := .collected D, args := #[] } :: a.defers } W) :
  (Code.rangeFunc g ps assign body).wpIn F n P Q a w :=
 wpIn_rangeFunc_N hro h1 hg hFg eg hseq hKt hKb hps I Ix hI hIx h0 (fun k a' _ => a' = a₁ k) (fun _ _ _ _ _ _ hs _ _ => hs)
  (fun l k W K hk hi hK => hassign l k W K hk (hK _ _ (KeepsFrom.refl _ _) (hKr W) hi rfl)) (fun l k a' W hl _ hk hi e => by subst e; exact hbody l k W hl hk hi) hdone hstop
end
section
open Go Go.RowKit Go.Shelf
attribute [local go_sem] Oper.semAt_some
theorem parts_seq (n : Nat) (hn : 1 ≤ n) (Bs b : Nat) (z : Nat → Int) (w : World) (hBs : Bs < w.heap.size) (hb : b < w.heap.size)
  (hcB : w.cell? ⟨Bs, 0, none⟩ = some (.pointer (some ⟨b, 0, none⟩))) (hc : ∀ j, j < 4 → w.cell? ⟨b, j, none⟩ = some (.int .u64 (z j))) :
  SeqN Fence.wide n Tryz.prog 160 #[.pointer (some ⟨Bs, 0, none⟩)] (fun k => #[.int .i64 (k : Int), .int .u64 (z k)]) (KeepsAt [b, Bs]) 4 w := by
 intro l J Jx W hW _ _ hY h0
 have hBs' := (hW.cell (p := ⟨Bs, 0, none⟩) hBs).trans hcB
 have hc' : ∀ j, j < 4 → W.cell? ⟨b, j, none⟩ = some (.int .u64 (z j)) := fun j hj => (hW.cell (p := ⟨b, j, none⟩) hb).trans (hc j hj)
 clear hcB hc
 refine callsIn_of_wp Tryz.func160 rfl trivial ?_ rfl
 simp only [Tryz.ntmps160, List.size_toArray, List.length_cons, List.length_nil, Nat.reduceAdd, Nat.reduceSub, Array.replicate_succ, Array.replicate_zero, List.push_toArray, List.append_toArray, List.nil_append, List.cons_append]
 gi_wp2
 gi_loopw [4] (fun i wr => ∃ k : Nat, k ≤ 4 ∧ i = .int .i64 k ∧ J k wr ∧ KeepsAt [b, Bs] W wr)
  (fun i _ => 4 - (intOf i).toNat)
 case atStart => exact ⟨0, Nat.zero_le _, rfl, h0, KeepsAt.refl _ _⟩
 case round =>
  obtain ⟨k, hk, rfl, hJs, hnx⟩ := hrel
  by_cases hlt : k < 4
  ·obtain ⟨fn, tmps, assign, body, hy, hR⟩ := hY k wr hlt hJs
   have hcx : wr.cell? ⟨b, k, none⟩ = some (.int .u64 (z k)) := (hnx.cell (p := ⟨b, k, none⟩) (by simp)).trans (hc' k hlt)
   have hbx : wr.cell? ⟨Bs, 0, none⟩ = some (.pointer (some ⟨b, 0, none⟩)) := (hnx.cell (p := ⟨Bs, 0, none⟩) (by simp)).trans hBs'
   clear hc' hBs'
   gi_wp2
   refine hR.mono ?_
   rintro e W3 (⟨rfl, hJ3, hk3⟩ | ⟨rfl, hJx3⟩)
   ·gi_wp2
    go_roundw
    case rel => exact ⟨k + 1, by omega, by simp, hJ3, hnx.trans hk3⟩
    case measure => simp [intOf]; omega
   ·gi_wp2
    refine bodyPost_ret (results_none rfl _ _ _) rfl ?_
    exact ⟨⟨_, rfl⟩, .inr ⟨k, hlt, hJx3⟩⟩
  ·obtain rfl : k = 4 := by omega
   gi_wp2
   go_end0
   exact ⟨⟨_, rfl⟩, .inl hJs⟩
end
section
open Go Go.RowKit Go.Shelf
attribute [local go_sem] Oper.semAt_some Grows wide_fn
def rc (z : Nat → Int) (f : Int) (m : Nat → Int) : Nat → Int
 | 0 => 0
 | k + 1 => tpHi (z k) f (m k) (rc z f m k)
def ro (z : Nat → Int) (f : Int) (m : Nat → Int) (k : Nat) : Int := tpLo (z k) f (m k) (rc z f m k)
theorem rc_u64 (z : Nat → Int) (f : Int) (m : Nat → Int) (hz : ∀ k, U64 (z k)) (hf : U64 f) (hm : ∀ k, U64 (m k)) : ∀ k, U64 (rc z f m k)
 | 0 => ⟨by simp [rc], by simp [rc]⟩
 | k + 1 => (tp_bound _ _ _ _ (hz k) hf (hm k) (rc_u64 z f m hz hf hm k)).2
theorem ro_u64 (z : Nat → Int) (f : Int) (m : Nat → Int) (hz : ∀ k, U64 (z k)) (hf : U64 f) (hm : ∀ k, U64 (m k)) (k : Nat) : U64 (ro z f m k) :=
 (tp_bound _ _ _ _ (hz k) hf (hm k) (rc_u64 z f m hz hf hm k)).1
def rowAt (z : Nat → Int) (f : Int) (M : Nat → Int) (off k j : Nat) : Int := if off ≤ j ∧ j < off + k then ro z f (fun i => M (off + i)) (j - off) else M j
theorem rowAt_zero (z : Nat → Int) (f : Int) (M : Nat → Int) (off : Nat) : rowAt z f M off 0 = M := by funext j; unfold rowAt; rw [if_neg (by omega)]
theorem rowAt_here (z : Nat → Int) (f : Int) (M : Nat → Int) (off k : Nat) : rowAt z f M off k (off + k) = M (off + k) := by unfold rowAt; rw [if_neg (by omega)]
theorem rowAt_succ (z : Nat → Int) (f : Int) (M : Nat → Int) (off k : Nat) : rowAt z f M off (k + 1) = fun j => if j = off + k then ro z f (fun i => M (off + i)) k else rowAt z f M off k j := by
 funext j; unfold rowAt
 by_cases h : j = off + k
 ·subst h; rw [if_pos (by omega), if_pos rfl, show off + k - off = k by omega]
 ·rw [if_neg h]
  by_cases h2 : off ≤ j ∧ j < off + k
  ·rw [if_pos (by omega), if_pos h2]
  ·rw [if_neg (by omega), if_neg h2]
def RowSt (w : World) (S _ba off n : Nat) (z : Nat → Int) (f : Int) (M : Nat → Int) (k : Nat) (W : World) : Prop :=
 (Boxed W w.heap.size 127 (.slice (some ⟨S, off, none⟩) n n) ∧ Boxed W (w.heap.size + 1) 22 (.int .u64 f) ∧ Boxed W (w.heap.size + 1 + 1) 22 (.int .u64 (rc z f (fun i => M (off + i)) k)) ∧
  Arr4 W S 24 (rowAt z f M off k)) ∧ w.grownBy W (some S) ∧ w.heap.size + 4 ≤ W.heap.size
theorem size_own {β : Type} (B n : Nat) : OwnFrom B (fun (_ : β) W => n ≤ W.heap.size) := fun _ _ _ _ hs hg _ => Nat.le_trans hs hg.size
theorem grownBy_own {β : Type} (w : World) (S B : Nat) (hB : w.heap.size ≤ B) : OwnFrom B (fun (_ : β) W => w.grownBy W (some S)) := fun _ X Y row hs hg hr =>
 ⟨hg.os.trans hs.os, hg.tape.trans hs.tape, hg.output.trans hs.output, Nat.le_trans hs.size hg.size, fun k hk hne => (hg.block k (Nat.lt_of_lt_of_le hk hs.size) (fun e => by
  obtain ⟨h1, _⟩ := hr k e.symm
  omega)).trans (hs.block k hk hne)⟩
theorem RowSt.own (w : World) (S ba off n : Nat) (z : Nat → Int) (f : Int) (M : Nat → Int) (B : Nat) (hB : w.heap.size ≤ B) : OwnFrom B (fun k W => RowSt w S ba off n z f M k W) :=
 OwnFrom.and (Own.from (fun s X Y row hs hg hr => ⟨boxed_own _ _ (fun _ : Nat => _) s X Y row hs.1 hg hr, boxed_own _ _ (fun _ : Nat => _) s X Y row hs.2.1 hg hr,
  boxed_own _ _ (fun k : Nat => Value.int .u64 (rc z f (fun i => M (off + i)) k)) s X Y row hs.2.2.1 hg hr, Arr4.own S _ (fun k : Nat => rowAt z f M off k) s X Y row hs.2.2.2 hg hr⟩) _) (OwnFrom.and (grownBy_own w S B hB) (size_own _ _))
theorem addRow_any (z : Nat → Int) (f : Int) (M : Nat → Int) (hz : ∀ k, U64 (z k)) (hf : U64 f) (hM : ∀ k, U64 (M k)) (S ba off n : Nat) (hn : off + n = 4) (w : World) (hba : ba < w.heap.size) (hne : ba ≠ S)
  (hA : ∀ j, j < 4 → w.cell? ⟨ba, j, none⟩ = some (.int .u64 (z j))) (hS : Arr4 w S 24 M) :
  Calls Tryz.prog 138 #[.slice (some ⟨S, off, none⟩) n n, .pointer (some ⟨ba, 0, none⟩), .int .u64 f] w fun e w' =>
   e = .returned (.tuple #[]) ∧ Arr4 w' S 24 (rowAt z f M off n) ∧ w.grownBy w' (some S) := by
 have h1 : 1 ≤ 3 := by omega
 have hSlt := hS.lt
 refine (callsIn_wide (n := 3)).1 ?_
 refine callsIn_of_wp_marks Tryz.func138 rfl trivial ?_ rfl
 simp only [Tryz.ntmps138, List.size_toArray, List.length_cons, List.length_nil, Nat.reduceAdd, Nat.reduceSub, Array.replicate_succ, Array.replicate_zero, List.push_toArray, List.append_toArray, List.nil_append, List.cons_append]
 gi_wp2_with (gi_at_call 137; refine (callsIn_free free_wide (parts_any _ _)).mono ?_; rintro e w' ⟨rfl, rfl⟩)
 obtain ⟨W0, hW0⟩ : ∃ W0, ((((w.alloc (.cells #[.slice (some ⟨S, off, none⟩) n n] 127)).alloc (.cells #[.int .u64 f] 22)).alloc (.cells #[.int .u64 0] 22)).alloc (.cells #[.pointer (some ⟨ba, 0, none⟩)] 125)) = W0 := ⟨_, rfl⟩
 have hG0 : w.grownBy W0 (some S) := by
  rw [← hW0]; exact grown_of_below (((((Below.refl _ w).alloc (Nat.le_refl _) _).alloc (by simp) _).alloc (by simp; omega) _).alloc (by simp; omega) _) _
 have hsz : W0.heap.size = w.heap.size + 4 := by rw [← hW0]; simp
 have bP : Boxed W0 (w.heap.size + 1 + 1 + 1) 125 (.pointer (some ⟨ba, 0, none⟩)) := by
  have h := Boxed.new (((w.alloc (.cells #[.slice (some ⟨S, off, none⟩) n n] 127)).alloc (.cells #[.int .u64 f] 22)).alloc (.cells #[.int .u64 0] 22)) 125 (.pointer (some ⟨ba, 0, none⟩))
  rw [hW0] at h; simpa using h
 have hJ0 : RowSt w S ba off n z f M 0 W0 := by
  refine ⟨?_, hG0, by omega⟩
  rw [rowAt_zero, ← hW0]
  refine ⟨?_, ?_, ?_, ?_⟩
  ·exact (((Boxed.new w _ _).alloc _).alloc _).alloc _
  ·have h := Boxed.new (w.alloc (.cells #[.slice (some ⟨S, off, none⟩) n n] 127)) 22 (.int .u64 f)
   rw [World.size_alloc] at h
   exact (h.alloc _).alloc _
  ·have h := Boxed.new ((w.alloc (.cells #[.slice (some ⟨S, off, none⟩) n n] 127)).alloc (.cells #[.int .u64 f] 22)) 22 (.int .u64 0)
   rw [World.size_alloc, World.size_alloc] at h
   exact h.alloc _
  ·exact (((hS.alloc _).alloc _).alloc _).alloc _
 rw [hW0]
 clear hW0
 have hA' : ∀ j, j < 4 → W0.cell? ⟨ba, j, none⟩ = some (.int .u64 (z j)) := fun j hj => (World.cell?_of_block (w := w) (hG0.block ba hba (fun e => hne (by injection e)))).trans (hA j hj)
 refine wpIn_rangeFunc_N1 rfl h1 (gf := 160) (lb := #[.pointer (some ⟨w.heap.size + 1 + 1 + 1, 0, none⟩)]) rfl trivial (enters_of Tryz.func160 (by kernel_rfl) rfl)
  (parts_seq _ (by omega) _ ba z W0 (by omega) (by omega) bP.cell hA') KeepsAt.trans (KeepsAt.refl _) (KeepsAt.b (by simp; omega)) (fun _ _ => rfl)
  (fun k W => k ≤ n ∧ RowSt w S ba off n z f M k W)
  (fun c k W => c = .ret ∧ k = n ∧ RowSt w S ba off n z f M k W)
  (OwnFrom.and (ownFrom_pure _ _) (RowSt.own w S ba off n z f M _ (by omega)))
  (fun c => OwnFrom.and (ownFrom_pure _ _) (OwnFrom.and (ownFrom_pure _ _) (RowSt.own w S ba off n z f M _ (by omega))))
  ⟨Nat.zero_le _, hJ0⟩
  (fun k => { tmps := #[.slice (some ⟨S, off, none⟩) n n, .pointer (some ⟨ba, 0, none⟩), .int .u64 f, .pointer (some ⟨w.heap.size, 0, none⟩), undef, .pointer (some ⟨w.heap.size + 1, 0, none⟩), .pointer (some ⟨w.heap.size + 1 + 1, 0, none⟩), .int .i64 (k : Int), .int .u64 (z k), .pointer (some ⟨ba, 0, none⟩), .func (.func 160) #[] #[.pointer (some ⟨w.heap.size + 1 + 1 + 1, 0, none⟩)], .int .i64 (k : Int), .int .u64 (z k), undef, undef, undef, undef, undef, undef, undef, undef, undef, undef, undef, undef, undef, undef, undef, undef, undef, undef], defers := [] }) ?assign ?body ?done ?stop
 case assign =>
  intro l k W K _ hK
  gi_wp2
  exact hK
 case body =>
  rintro l k W _ hk4 ⟨hkn, ⟨b3, b5, b6, bS⟩, hG, hsW⟩
  have hmx : Tryz.prog.follows .mixedOrders = true := by kernel_rfl
  have c3 := b3.cell
  by_cases hkn' : k = n
  ·subst hkn'
   clear hA hA' hz hf hM
   gi_wp2
   exact ⟨KeepsFrom.refl _ _, rfl, rfl, ⟨b3, b5, b6, bS⟩, hG, hsW⟩
  ·have hlt : k < n := by omega
   have hn3 : ((k : Int) == (n : Int)) = false := by simp; omega
   have hn4 : (k == n) = false := by simp; omega
   have hk0 : (0 : Int) ≤ (k : Int) := by omega
   have hkI : (k : Int) < (n : Int) := by omega
   have hm : ∀ i, U64 ((fun i => M (off + i)) i) := fun i => hM _
   have hcall := Ret.of_same (timesPlus_any (z k) f (M (off + k)) (rc z f (fun i => M (off + i)) k) (hz k) hf (hM _) (rc_u64 z f _ hz hf hm k))
   have cS : W.cell? ⟨S, off + k, none⟩ = some (.int .u64 (M (off + k))) := by have := bS.cell (j := off + k) (by omega); rw [rowAt_here] at this; exact this
   have e3 : ∀ x : Ext W, x.w.cell? ⟨w.heap.size, 0, none⟩ = some (.slice (some ⟨S, off, none⟩) n n) := fun x => (x.cell b3.lt).trans c3
   have e5 : ∀ x : Ext W, x.w.cell? ⟨w.heap.size + 1, 0, none⟩ = some (.int .u64 f) := fun x => (x.cell b5.lt).trans b5.cell
   have e6 : ∀ x : Ext W, x.w.cell? ⟨w.heap.size + 1 + 1, 0, none⟩ = some (.int .u64 (rc z f (fun i => M (off + i)) k)) := fun x => (x.cell b6.lt).trans b6.cell
   have eS : ∀ x : Ext W, x.w.cell? ⟨S, off + k, none⟩ = some (.int .u64 (M (off + k))) := fun x => (x.cell (p := ⟨S, _, none⟩) bS.lt).trans cS
   have g6 : ∀ x : Ext W, x.w.frozen? ⟨w.heap.size + 1 + 1, 0, none⟩ = false := fun x => (x.frozen b6.lt).trans b6.frozen
   have gS : ∀ x : Ext W, x.w.frozen? ⟨S, off + k, none⟩ = false := fun x => (x.frozen (p := ⟨S, _, none⟩) bS.lt).trans (bS.frozen _)
   have HR := Lib.hid (rowAt_succ z f M off k)
   have HC : Hid (rc z f (fun i => M (off + i)) (k + 1) = tpHi (z k) f (M (off + k)) (rc z f (fun i => M (off + i)) k)) := rfl
   have HO : Hid (ro z f (fun i => M (off + i)) k = tpLo (z k) f (M (off + k)) (rc z f (fun i => M (off + i)) k)) := rfl
   have HB := Lib.hid bS
   clear cS hz hf hM hm hA hA' bS
   gi_wp2
   refine wpIn_region_mix (C := Grows W) (free_round l) [some true, some true, some true, some true, some true, some true, some true, some true, some true, some true, some true, some true, some false, some true, none, none] hmx (by kernel_rfl) (by kernel_rfl) (grows_refl W) ?_
   simp only [headOf, tailOf]
   repeat (go_big_quiet_step (exact Ret.at hcall _))
   refine wpQuiet_nil ?_
   rintro _ ⟨x, rfl⟩
   go_wp2
   rw [calmPost_normal]
   have bS := HB.out
   have hx := x.below
   have hGx := grown_then_below hG hx
   refine ⟨((x.keeps _).trans ((KeepsOthers.setCell _ _ _).from _)).trans ((KeepsOthers.setCell _ _ _).from _), ?_, by omega, ⟨?_, ?_, ?_, ?_⟩, ?_, Nat.le_trans hsW (Nat.le_trans hx.size (by simp [World.setCell]))⟩
   ·exact (((KeepsAt.refl _ _).below hx (fun b hb => by simp at hb; omega)).setCell (by simp; omega) _).setCell (by simp; omega) _
   ·exact Boxed.away (Boxed.away (Boxed.below b3 hx b3.lt) (by first | omega | (simp; done) | (simp; omega)) _) (by first | omega | (simp; done) | (simp; omega)) _
   ·exact Boxed.away (Boxed.away (Boxed.below b5 hx b5.lt) (by first | omega | (simp; done) | (simp; omega)) _) (by first | omega | (simp; done) | (simp; omega)) _
   ·rw [HC.out]
    exact Boxed.set _ (Boxed.away (Boxed.below b6 hx b6.lt) (by first | omega | (simp; done) | (simp; omega)) _)
   ·rw [HR.out, HO.out]
    exact Arr4.other (Arr4.set (Arr4.below bS hx bS.lt) (k := off + k) (by omega) _) (by first | omega | (simp; done) | (simp; omega)) _
   ·exact grown_set (grown_set hGx (.inl rfl) _) (.inr (by simp; omega)) _
 case done =>
  rintro D W hD ⟨h4, hst⟩ hK
  obtain rfl : n = 4 := by omega
  gi_wp2
  refine ⟨by simp, .inl ⟨_, _, rfl, run_takeDeferred hK, ?_⟩⟩
  exact ⟨_, results_none rfl _ _ _, rfl, Arr4.kept hst.1.2.2.2 (grownBy_putObj' _ D (.deferred none)) (fun e => by cases e; have := (show _ = _ from hst.1.2.2.2).symm.trans hK; cases this), grown_putObj hst.2.1 (by omega) _⟩
 case stop =>
  rintro D c k W hD hk4 ⟨rfl, rfl, hst⟩ hK
  gi_wp2
  refine ⟨by simp, .inl ⟨_, _, rfl, run_takeDeferred hK, ?_⟩⟩
  exact ⟨_, results_none rfl _ _ _, rfl, Arr4.kept hst.1.2.2.2 (grownBy_putObj' _ D (.deferred none)) (fun e => by cases e; have := (show _ = _ from hst.1.2.2.2).symm.trans hK; cases this), grown_putObj hst.2.1 (by omega) _⟩
end
section
open Go Go.RowKit
theorem num_mul (z : Nat → Int) (f : Int) : num z * f = z 0 * f + z 1 * f * 18446744073709551616 + z 2 * f * 340282366920938463463374607431768211456 + z 3 * f * 6277101735386680763835789423207666416102355444464034512896 := by
 unfold num
 rw [Int.add_mul, Int.add_mul, Int.add_mul, Int.mul_right_comm (z 1), Int.mul_right_comm (z 2), Int.mul_right_comm (z 3)]
theorem tp_step (x y p q : Int) : tpLo x y p q + 18446744073709551616 * tpHi x y p q = x * y + p + q := Int.emod_add_mul_ediv ..
theorem row_num0 (z : Nat → Int) (f : Int) (M : Nat → Int) : ∃ c, num (rowAt z f M 0 4) + 115792089237316195423570985008687907853269984665640564039457584007913129639936 * c = num M + num z * f * 1 := by
 rw [num_mul]
 have k0 : ro z f (fun i => M (0 + i)) 0 + 18446744073709551616 * rc z f (fun i => M (0 + i)) 1 = z 0 * f + M 0 + rc z f (fun i => M (0 + i)) 0 := tp_step ..
 have k1 : ro z f (fun i => M (0 + i)) 1 + 18446744073709551616 * rc z f (fun i => M (0 + i)) 2 = z 1 * f + M 1 + rc z f (fun i => M (0 + i)) 1 := tp_step ..
 have k2 : ro z f (fun i => M (0 + i)) 2 + 18446744073709551616 * rc z f (fun i => M (0 + i)) 3 = z 2 * f + M 2 + rc z f (fun i => M (0 + i)) 2 := tp_step ..
 have k3 : ro z f (fun i => M (0 + i)) 3 + 18446744073709551616 * rc z f (fun i => M (0 + i)) 4 = z 3 * f + M 3 + rc z f (fun i => M (0 + i)) 3 := tp_step ..
 have kz : rc z f (fun i => M (0 + i)) 0 = 0 := rfl
 have r0 : rowAt z f M 0 4 0 = ro z f (fun i => M (0 + i)) 0 := rfl
 have r1 : rowAt z f M 0 4 1 = ro z f (fun i => M (0 + i)) 1 := rfl
 have r2 : rowAt z f M 0 4 2 = ro z f (fun i => M (0 + i)) 2 := rfl
 have r3 : rowAt z f M 0 4 3 = ro z f (fun i => M (0 + i)) 3 := rfl
 refine ⟨rc z f (fun i => M (0 + i)) 4, ?_⟩
 unfold num
 rw [r0, r1, r2, r3]
 clear r0 r1 r2 r3
 rw [kz] at k0
 clear kz
 generalize ro z f (fun i => M (0 + i)) 0 = o0 at *
 generalize ro z f (fun i => M (0 + i)) 1 = o1 at *
 generalize ro z f (fun i => M (0 + i)) 2 = o2 at *
 generalize ro z f (fun i => M (0 + i)) 3 = o3 at *
 generalize rc z f (fun i => M (0 + i)) 1 = c1 at *
 generalize rc z f (fun i => M (0 + i)) 2 = c2 at *
 generalize rc z f (fun i => M (0 + i)) 3 = c3 at *
 generalize rc z f (fun i => M (0 + i)) 4 = c4 at *
 generalize z 0 * f = p0 at *
 generalize M 0 = m0 at *
 generalize z 1 * f = p1 at *
 generalize M 1 = m1 at *
 generalize z 2 * f = p2 at *
 generalize M 2 = m2 at *
 generalize z 3 * f = p3 at *
 generalize M 3 = m3 at *
 omega
theorem row_num1 (z : Nat → Int) (f : Int) (M : Nat → Int) : ∃ c, num (rowAt z f M 1 3) + 115792089237316195423570985008687907853269984665640564039457584007913129639936 * c = num M + num z * f * 18446744073709551616 := by
 rw [num_mul]
 have k0 : ro z f (fun i => M (1 + i)) 0 + 18446744073709551616 * rc z f (fun i => M (1 + i)) 1 = z 0 * f + M 1 + rc z f (fun i => M (1 + i)) 0 := tp_step ..
 have k1 : ro z f (fun i => M (1 + i)) 1 + 18446744073709551616 * rc z f (fun i => M (1 + i)) 2 = z 1 * f + M 2 + rc z f (fun i => M (1 + i)) 1 := tp_step ..
 have k2 : ro z f (fun i => M (1 + i)) 2 + 18446744073709551616 * rc z f (fun i => M (1 + i)) 3 = z 2 * f + M 3 + rc z f (fun i => M (1 + i)) 2 := tp_step ..
 have kz : rc z f (fun i => M (1 + i)) 0 = 0 := rfl
 have r0 : rowAt z f M 1 3 0 = M 0 := rfl
 have r1 : rowAt z f M 1 3 1 = ro z f (fun i => M (1 + i)) 0 := rfl
 have r2 : rowAt z f M 1 3 2 = ro z f (fun i => M (1 + i)) 1 := rfl
 have r3 : rowAt z f M 1 3 3 = ro z f (fun i => M (1 + i)) 2 := rfl
 refine ⟨rc z f (fun i => M (1 + i)) 3 + z 3 * f * 1, ?_⟩
 unfold num
 rw [r0, r1, r2, r3]
 clear r0 r1 r2 r3
 rw [kz] at k0
 clear kz
 generalize ro z f (fun i => M (1 + i)) 0 = o0 at *
 generalize ro z f (fun i => M (1 + i)) 1 = o1 at *
 generalize ro z f (fun i => M (1 + i)) 2 = o2 at *
 generalize rc z f (fun i => M (1 + i)) 1 = c1 at *
 generalize rc z f (fun i => M (1 + i)) 2 = c2 at *
 generalize rc z f (fun i => M (1 + i)) 3 = c3 at *
 generalize z 0 * f = p0 at *
 generalize M 0 = m0 at *
 generalize z 1 * f = p1 at *
 generalize M 1 = m1 at *
 generalize z 2 * f = p2 at *
 generalize M 2 = m2 at *
 generalize z 3 * f = p3 at *
 generalize M 3 = m3 at *
 omega
theorem row_num2 (z : Nat → Int) (f : Int) (M : Nat → Int) : ∃ c, num (rowAt z f M 2 2) + 115792089237316195423570985008687907853269984665640564039457584007913129639936 * c = num M + num z * f * 340282366920938463463374607431768211456 := by
 rw [num_mul]
 have k0 : ro z f (fun i => M (2 + i)) 0 + 18446744073709551616 * rc z f (fun i => M (2 + i)) 1 = z 0 * f + M 2 + rc z f (fun i => M (2 + i)) 0 := tp_step ..
 have k1 : ro z f (fun i => M (2 + i)) 1 + 18446744073709551616 * rc z f (fun i => M (2 + i)) 2 = z 1 * f + M 3 + rc z f (fun i => M (2 + i)) 1 := tp_step ..
 have kz : rc z f (fun i => M (2 + i)) 0 = 0 := rfl
 have r0 : rowAt z f M 2 2 0 = M 0 := rfl
 have r1 : rowAt z f M 2 2 1 = M 1 := rfl
 have r2 : rowAt z f M 2 2 2 = ro z f (fun i => M (2 + i)) 0 := rfl
 have r3 : rowAt z f M 2 2 3 = ro z f (fun i => M (2 + i)) 1 := rfl
 refine ⟨rc z f (fun i => M (2 + i)) 2 + z 2 * f * 1 + z 3 * f * 18446744073709551616, ?_⟩
 unfold num
 rw [r0, r1, r2, r3]
 clear r0 r1 r2 r3
 rw [kz] at k0
 clear kz
 generalize ro z f (fun i => M (2 + i)) 0 = o0 at *
 generalize ro z f (fun i => M (2 + i)) 1 = o1 at *
 generalize rc z f (fun i => M (2 + i)) 1 = c1 at *
 generalize rc z f (fun i => M (2 + i)) 2 = c2 at *
 generalize z 0 * f = p0 at *
 generalize M 0 = m0 at *
 generalize z 1 * f = p1 at *
 generalize M 1 = m1 at *
 generalize z 2 * f = p2 at *
 generalize M 2 = m2 at *
 generalize z 3 * f = p3 at *
 generalize M 3 = m3 at *
 omega
theorem row_num3 (z : Nat → Int) (f : Int) (M : Nat → Int) : ∃ c, num (rowAt z f M 3 1) + 115792089237316195423570985008687907853269984665640564039457584007913129639936 * c = num M + num z * f * 6277101735386680763835789423207666416102355444464034512896 := by
 rw [num_mul]
 have k0 : ro z f (fun i => M (3 + i)) 0 + 18446744073709551616 * rc z f (fun i => M (3 + i)) 1 = z 0 * f + M 3 + rc z f (fun i => M (3 + i)) 0 := tp_step ..
 have kz : rc z f (fun i => M (3 + i)) 0 = 0 := rfl
 have r0 : rowAt z f M 3 1 0 = M 0 := rfl
 have r1 : rowAt z f M 3 1 1 = M 1 := rfl
 have r2 : rowAt z f M 3 1 2 = M 2 := rfl
 have r3 : rowAt z f M 3 1 3 = ro z f (fun i => M (3 + i)) 0 := rfl
 refine ⟨rc z f (fun i => M (3 + i)) 1 + z 1 * f * 1 + z 2 * f * 18446744073709551616 + z 3 * f * 340282366920938463463374607431768211456, ?_⟩
 unfold num
 rw [r0, r1, r2, r3]
 clear r0 r1 r2 r3
 rw [kz] at k0
 clear kz
 generalize ro z f (fun i => M (3 + i)) 0 = o0 at *
 generalize rc z f (fun i => M (3 + i)) 1 = c1 at *
 generalize z 0 * f = p0 at *
 generalize M 0 = m0 at *
 generalize z 1 * f = p1 at *
 generalize M 1 = m1 at *
 generalize z 2 * f = p2 at *
 generalize M 2 = m2 at *
 generalize z 3 * f = p3 at *
 generalize M 3 = m3 at *
 omega
def mulAt (a b : Nat → Int) : Nat → Nat → Int
 | 0 => fun _ => 0
 | k + 1 => rowAt a (b k) (mulAt a b k) k (4 - k)
theorem mulAt_u64 (a b : Nat → Int) (ha : ∀ k, U64 (a k)) (hb : ∀ k, U64 (b k)) : ∀ k j, U64 (mulAt a b k j)
 | 0, j => ⟨by simp [mulAt], by simp [mulAt]⟩
 | k + 1, j => by
  have ih := mulAt_u64 a b ha hb k
  show U64 (rowAt a (b k) (mulAt a b k) k (4 - k) j)
  unfold rowAt
  split
  ·exact ro_u64 _ _ _ ha (hb k) (fun i => ih _) _
  ·exact ih j
theorem mul_parts (a b : Nat) (ha : W256 a) (hb : W256 b) : ∀ k, k < 4 → mulAt (lim a) (lim b) 4 k = lim (wmod (a * b)) k := by
 have u := fun k => mulAt_u64 (lim a) (lim b) (lim_u64 a) (lim_u64 b) 4 k
 obtain ⟨c0, h0⟩ := row_num0 (lim a) (lim b 0) (mulAt (lim a) (lim b) 0)
 obtain ⟨c1, h1⟩ := row_num1 (lim a) (lim b 1) (mulAt (lim a) (lim b) 1)
 obtain ⟨c2, h2⟩ := row_num2 (lim a) (lim b 2) (mulAt (lim a) (lim b) 2)
 obtain ⟨c3, h3⟩ := row_num3 (lim a) (lim b 3) (mulAt (lim a) (lim b) 3)
 have e0 : num (mulAt (lim a) (lim b) 0) = 0 := rfl
 have e1 : num (rowAt (lim a) (lim b 0) (mulAt (lim a) (lim b) 0) 0 4) = num (mulAt (lim a) (lim b) 1) := rfl
 have e2 : num (rowAt (lim a) (lim b 1) (mulAt (lim a) (lim b) 1) 1 3) = num (mulAt (lim a) (lim b) 2) := rfl
 have e3 : num (rowAt (lim a) (lim b 2) (mulAt (lim a) (lim b) 2) 2 2) = num (mulAt (lim a) (lim b) 3) := rfl
 have e4 : num (rowAt (lim a) (lim b 3) (mulAt (lim a) (lim b) 3) 3 1) = num (mulAt (lim a) (lim b) 4) := rfl
 rw [e1, e0] at h0
 rw [e2] at h1
 rw [e3] at h2
 rw [e4] at h3
 have ea := num_lim a ha
 have eb := num_lim b hb
 rw [ea] at h0 h1 h2 h3
 have hab : ((a * b : Nat) : Int) = a * lim b 0 + a * lim b 1 * 18446744073709551616 + a * lim b 2 * 340282366920938463463374607431768211456 + a * lim b 3 * 6277101735386680763835789423207666416102355444464034512896 := by
  rw [Int.natCast_mul, ← eb]
  unfold num
  rw [Int.mul_add, Int.mul_add, Int.mul_add, Int.mul_assoc, Int.mul_assoc, Int.mul_assoc]
 obtain ⟨n0, n1⟩ := num_lt (mulAt (lim a) (lim b) 4) (u 0) (u 1) (u 2) (u 3)
 have key : num (mulAt (lim a) (lim b) 4) = ((wmod (a * b) : Nat) : Int) := by
  unfold wmod
  rw [Int.natCast_emod, hab]
  clear ea eb hab e0 e1 e2 e3 e4 u
  generalize num (mulAt (lim a) (lim b) 4) = t4 at *
  generalize num (mulAt (lim a) (lim b) 3) = t3 at *
  generalize num (mulAt (lim a) (lim b) 2) = t2 at *
  generalize num (mulAt (lim a) (lim b) 1) = t1 at *
  generalize (a : Int) * lim b 0 = p0 at *
  generalize (a : Int) * lim b 1 = p1 at *
  generalize (a : Int) * lim b 2 = p2 at *
  generalize (a : Int) * lim b 3 = p3 at *
  have e : p0 + p1 * 18446744073709551616 + p2 * 340282366920938463463374607431768211456 + p3 * 6277101735386680763835789423207666416102355444464034512896 = t4 + 115792089237316195423570985008687907853269984665640564039457584007913129639936 * (c0 + c1 + c2 + c3) := by omega
  rw [e]
  show t4 = (t4 + 115792089237316195423570985008687907853269984665640564039457584007913129639936 * (c0 + c1 + c2 + c3)) % 115792089237316195423570985008687907853269984665640564039457584007913129639936
  rw [Int.add_mul_emod_self_left, Int.emod_eq_of_lt n0 n1]
 obtain ⟨g0, g1, g2, g3⟩ := lim_num _ _ (u 0) (u 1) (u 2) (u 3) key
 intro k hk
 match k, hk with
 | 0, _ => exact g0.symm
 | 1, _ => exact g1.symm
 | 2, _ => exact g2.symm
 | 3, _ => exact g3.symm
end
section
open Go Go.RowKit Go.Shelf
attribute [local go_sem] Oper.semAt_some Grows wide_fn
def MulSt (w : World) (a b : Nat) (k : Nat) (W : World) : Prop :=
 (Arr4 W w.heap.size 24 (lim a) ∧ Arr4 W (w.heap.size + 1) 24 (lim b) ∧ Arr4 W (w.heap.size + 1 + 1) 24 (fun _ => 0) ∧ Arr4 W (w.heap.size + 1 + 1 + 1) 24 (mulAt (lim a) (lim b) k) ∧
  Boxed W (w.heap.size + 1 + 1 + 1 + 1) 125 (.pointer (some ⟨w.heap.size + 1, 0, none⟩))) ∧ Below w.heap.size w W
theorem MulSt.own (w : World) (a b B : Nat) (hB : w.heap.size ≤ B) : OwnFrom B (fun k W => MulSt w a b k W) :=
 OwnFrom.and (Own.from (fun s X Y row hs hg hr => ⟨Arr4.own _ _ (fun _ : Nat => _) s X Y row hs.1 hg hr, Arr4.own _ _ (fun _ : Nat => _) s X Y row hs.2.1 hg hr, Arr4.own _ _ (fun _ : Nat => fun _ => 0) s X Y row hs.2.2.1 hg hr,
  Arr4.own _ _ (fun k : Nat => mulAt (lim a) (lim b) k) s X Y row hs.2.2.2.1 hg hr, boxed_own _ _ (fun _ : Nat => _) s X Y row hs.2.2.2.2 hg hr⟩) _) (ownFrom_below (Nat.le_refl _) hB)
theorem keepsFrom_grown {B S : Nat} {W W' : World} (h : W.grownBy W' (some S)) (hS : ∃ cs t, W.heap[S]? = some (.cells cs t (0, 0))) : KeepsFrom B W W' :=
 ⟨h.size, fun k o _ hk ho => (h.block k (Array.getElem?_eq_some_iff.1 hk).1 (fun e => by
  obtain ⟨cs, t, hc⟩ := hS
  injection e with e
  subst e
  rw [hc] at hk
  cases hk
  cases ho)).trans hk⟩
theorem KeepsAt.grown {L : List Nat} {S : Nat} {W A B : World} (h : KeepsAt L W A) (hg : A.grownBy B (some S)) (hL : ∀ b, b ∈ L → b < A.heap.size ∧ b ≠ S) : KeepsAt L W B :=
 fun b hb => (hg.block b (hL b hb).1 (fun e => (hL b hb).2 (by injection e))).trans (h b hb)
theorem below_grown {B S : Nat} {w A C : World} (h : Below B w A) (hg : A.grownBy C (some S)) (hS : B ≤ S) (hB : B ≤ A.heap.size) : Below B w C := h.grown hg hB (fun k e => by injection e with e; omega)
theorem mul_ret (a b : Nat) (ha : W256 a) (hb : W256 b) : Ret Tryz.prog 110 #[wv a, wv b] (wv (wmod (a * b))) := by
 intro w
 have hP := mul_parts a b ha hb
 have e : wv (wmod (a * b)) = .agg #[.int .u64 (mulAt (lim a) (lim b) 4 0), .int .u64 (mulAt (lim a) (lim b) 4 1), .int .u64 (mulAt (lim a) (lim b) 4 2), .int .u64 (mulAt (lim a) (lim b) 4 3)] := by
  unfold wv; rw [hP 0 (by omega), hP 1 (by omega), hP 2 (by omega), hP 3 (by omega)]
 rw [e]
 clear e hP
 unfold wv
 have h1 : 1 ≤ 4 := by omega
 refine (callsIn_wide (n := 4)).1 ?_
 refine callsIn_of_wp_marks Tryz.func110 rfl trivial ?_ rfl
 simp only [Tryz.ntmps110, List.size_toArray, List.length_cons, List.length_nil, Nat.reduceAdd, Nat.reduceSub, Array.replicate_succ, Array.replicate_zero, List.push_toArray, List.append_toArray, List.nil_append, List.cons_append]
 gi_wp2_with (gi_at_call 137; refine (callsIn_free free_wide (parts_any _ _)).mono ?_; rintro e w' ⟨rfl, rfl⟩)
 obtain ⟨W0, hW0⟩ : ∃ W0, (((((w.alloc (.cells #[.int .u64 (lim a 0), .int .u64 (lim a 1), .int .u64 (lim a 2), .int .u64 (lim a 3)] 24)).alloc (.cells #[.int .u64 (lim b 0), .int .u64 (lim b 1), .int .u64 (lim b 2), .int .u64 (lim b 3)] 24)).alloc (.cells #[.int .u64 0, .int .u64 0, .int .u64 0, .int .u64 0] 24)).alloc (.cells #[.int .u64 0, .int .u64 0, .int .u64 0, .int .u64 0] 24)).alloc (.cells #[.pointer (some ⟨w.heap.size + 1, 0, none⟩)] 125)) = W0 := ⟨_, rfl⟩
 have hsz : W0.heap.size = w.heap.size + 5 := by rw [← hW0]; simp
 have hJ0 : MulSt w a b 0 W0 := by
  rw [← hW0]
  refine ⟨⟨?_, ?_, ?_, ?_, ?_⟩, (((((Below.refl _ w).alloc (Nat.le_refl _) _).alloc (by simp) _).alloc (by simp; omega) _).alloc (by simp; omega) _).alloc (by simp; omega) _⟩
  ·exact ((((Arr4.word w _ a).alloc _).alloc _).alloc _).alloc _
  ·have h := Arr4.word (w.alloc (.cells #[.int .u64 (lim a 0), .int .u64 (lim a 1), .int .u64 (lim a 2), .int .u64 (lim a 3)] 24)) 24 b
   rw [World.size_alloc] at h
   exact ((h.alloc _).alloc _).alloc _
  ·have h := World.alloc_heap_new ((w.alloc (.cells #[.int .u64 (lim a 0), .int .u64 (lim a 1), .int .u64 (lim a 2), .int .u64 (lim a 3)] 24)).alloc (.cells #[.int .u64 (lim b 0), .int .u64 (lim b 1), .int .u64 (lim b 2), .int .u64 (lim b 3)] 24)) (.cells #[.int .u64 0, .int .u64 0, .int .u64 0, .int .u64 0] 24)
   rw [World.size_alloc, World.size_alloc] at h
   exact (Arr4.alloc (m := fun _ => 0) h _).alloc _
  ·have h := World.alloc_heap_new (((w.alloc (.cells #[.int .u64 (lim a 0), .int .u64 (lim a 1), .int .u64 (lim a 2), .int .u64 (lim a 3)] 24)).alloc (.cells #[.int .u64 (lim b 0), .int .u64 (lim b 1), .int .u64 (lim b 2), .int .u64 (lim b 3)] 24)).alloc (.cells #[.int .u64 0, .int .u64 0, .int .u64 0, .int .u64 0] 24)) (.cells #[.int .u64 0, .int .u64 0, .int .u64 0, .int .u64 0] 24)
   rw [World.size_alloc, World.size_alloc, World.size_alloc] at h
   exact Arr4.alloc (m := fun _ => 0) h _
  ·have h := Boxed.new ((((w.alloc (.cells #[.int .u64 (lim a 0), .int .u64 (lim a 1), .int .u64 (lim a 2), .int .u64 (lim a 3)] 24)).alloc (.cells #[.int .u64 (lim b 0), .int .u64 (lim b 1), .int .u64 (lim b 2), .int .u64 (lim b 3)] 24)).alloc (.cells #[.int .u64 0, .int .u64 0, .int .u64 0, .int .u64 0] 24)).alloc (.cells #[.int .u64 0, .int .u64 0, .int .u64 0, .int .u64 0] 24)) 125 (.pointer (some ⟨w.heap.size + 1, 0, none⟩))
   simpa using h
 rw [hW0]
 clear hW0
 refine wpIn_rangeFunc_N1 rfl h1 (gf := 160) (lb := #[.pointer (some ⟨w.heap.size + 1 + 1 + 1 + 1, 0, none⟩)]) rfl trivial (enters_of Tryz.func160 (by kernel_rfl) rfl)
  (parts_seq _ (by omega) _ _ (lim b) W0 (by omega) (by omega) hJ0.1.2.2.2.2.cell (fun j hj => hJ0.1.2.1.cell hj)) KeepsAt.trans (KeepsAt.refl _) (KeepsAt.b (by simp; omega)) (fun _ _ => rfl)
  (fun k W => MulSt w a b k W)
  (fun _ _ _ => False)
  (MulSt.own w a b _ (by omega))
  (fun _ _ _ _ _ hs _ _ => hs)
  hJ0
  (fun k => { tmps := #[.agg #[.int .u64 (lim a 0), .int .u64 (lim a 1), .int .u64 (lim a 2), .int .u64 (lim a 3)], .agg #[.int .u64 (lim b 0), .int .u64 (lim b 1), .int .u64 (lim b 2), .int .u64 (lim b 3)], .pointer (some ⟨w.heap.size, 0, none⟩), .pointer (some ⟨w.heap.size + 1, 0, none⟩), .pointer (some ⟨w.heap.size + 1 + 1, 0, none⟩), .pointer (some ⟨w.heap.size + 1 + 1 + 1, 0, none⟩), .int .i64 (k : Int), .int .u64 (lim b k), .agg #[.int .u64 0, .int .u64 0, .int .u64 0, .int .u64 0], .func (.func 160) #[] #[.pointer (some ⟨w.heap.size + 1 + 1 + 1 + 1, 0, none⟩)], .int .i64 (k : Int), .int .u64 (lim b k), undef, undef, undef, undef, undef], defers := [] }) ?assign ?body ?done ?stop
 case assign =>
  intro l k W K _ hK
  gi_wp2
  exact hK
 case body =>
  rintro l k W _ hk4 ⟨⟨b0, b1, b2, b3, b4⟩, hB⟩
  have hk0 : (0 : Int) ≤ (k : Int) := by omega
  have hkI : (k : Int) ≤ 4 := by omega
  have hkN : ¬ (4 = k) := by omega
  gi_wp2_with fail
  refine (callsIn_free (free_round l) (addRow_any (lim a) (lim b k) (mulAt (lim a) (lim b) k) (lim_u64 a) (lim_u64 b k) (mulAt_u64 _ _ (lim_u64 a) (lim_u64 b) k) (w.heap.size + 1 + 1 + 1) w.heap.size k (4 - k) (by omega) W b0.lt (by omega) (fun j hj => b0.cell hj) b3)).mono ?_
  rintro e w1 ⟨rfl, hS, hG⟩
  have hl0 := b0.lt
  have hl1 := b1.lt
  have hl4 := b4.lt
  gi_wp2
  exact ⟨keepsFrom_grown hG ⟨_, _, b3⟩, (KeepsAt.refl _ _).grown hG (fun x hx => by simp at hx; omega), ⟨Arr4.kept b0 hG (by first | (simp; done) | (simp; omega)), Arr4.kept b1 hG (by first | (simp; done) | (simp; omega)), Arr4.kept b2 hG (by simp), hS, Boxed.kept b4 hG (by first | (simp; done) | (simp; omega))⟩,
   below_grown hB hG (by omega) hB.size⟩
 case done =>
  rintro D W hD ⟨⟨b0, b1, b2, b3, b4⟩, hB⟩ hK
  have c0 := b2.cell (j := 0) (by omega)
  have c1 := b2.cell (j := 1) (by omega)
  have c2 := b2.cell (j := 2) (by omega)
  have c3 := b2.cell (j := 3) (by omega)
  have f0 := b2.frozen 0
  have f1 := b2.frozen 1
  have f2 := b2.frozen 2
  have f3 := b2.frozen 3
  have d0 := b3.cell (j := 0) (by omega)
  have d1 := b3.cell (j := 1) (by omega)
  have d2 := b3.cell (j := 2) (by omega)
  have d3 := b3.cell (j := 3) (by omega)
  have HB2 := Lib.hid b2
  have HBe := Lib.hid hB
  have HK := Lib.hid hK
  clear b0 b1 b2 b3 b4 hB hK hJ0
  gi_wp2
  have hK' := ((((KeepsOthers.setCell W ⟨w.heap.size + 1 + 1, 0, none⟩ (.int .u64 (mulAt (lim a) (lim b) 4 0))).trans (KeepsOthers.setCell _ ⟨w.heap.size + 1 + 1, 1, none⟩ (.int .u64 (mulAt (lim a) (lim b) 4 1)))).trans (KeepsOthers.setCell _ ⟨w.heap.size + 1 + 1, 2, none⟩ (.int .u64 (mulAt (lim a) (lim b) 4 2)))).trans (KeepsOthers.setCell _ ⟨w.heap.size + 1 + 1, 3, none⟩ (.int .u64 (mulAt (lim a) (lim b) 4 3)))).same D _ HK.out rfl
  have b9 := HB2.out.store (mulAt (lim a) (lim b) 4)
  refine ⟨by simp, .inl ⟨_, _, rfl, run_takeDeferred hK', ?_⟩⟩
  exact ⟨_, results_word rfl rfl (Arr4.kept b9 (grownBy_putObj' _ D (.deferred none)) (fun e => by cases e; have := (show _ = _ from b9).symm.trans hK'; cases this)), rfl,
   ((((HBe.out.setCell (p := ⟨w.heap.size + 1 + 1, 0, none⟩) (by simp; omega) _).setCell (p := ⟨w.heap.size + 1 + 1, 1, none⟩) (by simp; omega) _).setCell (p := ⟨w.heap.size + 1 + 1, 2, none⟩) (by simp; omega) _).setCell (p := ⟨w.heap.size + 1 + 1, 3, none⟩) (by simp; omega) _).trans (belowK_b (w := w) (Nat.le_refl _) _ D _ _ (by omega) hK' rfl rfl)⟩
 case stop =>
  rintro D c k W _ _ h _
  exact h.elim
def I64 (n : Int) : Prop := -9223372036854775808 ≤ n ∧ n ≤ 9223372036854775807
def ofN (n : Int) : Nat := if n < 0 then (115792089237316195423570985008687907853269984665640564039457584007913129639936 + n).toNat else n.toNat
theorem of_neg (n : Int) (h : I64 n) (hn : n < 0) : lim (ofN n) 0 = 18446744073709551616 + n ∧ lim (ofN n) 1 = 18446744073709551615 ∧ lim (ofN n) 2 = 18446744073709551615 ∧ lim (ofN n) 3 = 18446744073709551615 := by
 unfold I64 at h
 refine lim_num (fun k => if k = 0 then 18446744073709551616 + n else 18446744073709551615) _ ?_ ?_ ?_ ?_ ?_
 ·unfold U64; simp; omega
 ·unfold U64; simp
 ·unfold U64; simp
 ·unfold U64; simp
 ·unfold num ofN; rw [if_pos hn]; simp; omega
theorem of_pos (n : Int) (h : I64 n) (hn : ¬ n < 0) : lim (ofN n) 0 = n ∧ lim (ofN n) 1 = 0 ∧ lim (ofN n) 2 = 0 ∧ lim (ofN n) 3 = 0 := by
 unfold I64 at h
 refine lim_num (fun k => if k = 0 then n else 0) _ ?_ ?_ ?_ ?_ ?_
 ·unfold U64; simp; omega
 ·unfold U64; simp
 ·unfold U64; simp
 ·unfold U64; simp
 ·unfold num ofN; rw [if_neg hn]; simp; omega
theorem of_wrap (n : Int) (h : I64 n) : lim (ofN n) 0 = IntKind.u64.wrap n ∧ lim (ofN n) 1 = IntKind.u64.wrap (n / 9223372036854775808) ∧ lim (ofN n) 2 = IntKind.u64.wrap (n / 9223372036854775808) ∧ lim (ofN n) 3 = IntKind.u64.wrap (n / 9223372036854775808) := by
 by_cases hn : n < 0
 ·obtain ⟨h0, h1, h2, h3⟩ := of_neg n h hn
  rw [h0, h1, h2, h3]
  unfold I64 at h
  simp only [IntKind.wrap_u64]
  refine ⟨?_, ?_, ?_, ?_⟩ <;> omega
 ·obtain ⟨h0, h1, h2, h3⟩ := of_pos n h hn
  rw [h0, h1, h2, h3]
  unfold I64 at h
  simp only [IntKind.wrap_u64]
  refine ⟨?_, ?_, ?_, ?_⟩ <;> omega
theorem of_ret (n : Int) (h : I64 n) : Ret Tryz.prog 134 #[.int .i64 n] (wv (ofN n)) := by
 intro w
 rw [wv_of (of_wrap n h)]
 go_enter Tryz.func134, Tryz.ntmps134
 go_wp2
 exact bodyPost_ret (results_word rfl rfl (Arr4.new w _ _ _ _ _)) rfl ⟨rfl, (Below.refl _ _).alloc (Nat.le_refl _) _⟩
def maxI : Nat := 4611686018427387903
theorem maxI_lim : lim maxI 0 = 4611686018427387903 ∧ lim maxI 1 = 0 ∧ lim maxI 2 = 0 ∧ lim maxI 3 = 0 := ⟨rfl, rfl, rfl, rfl⟩
theorem maxI_lt : W256 maxI := by unfold W256 maxI; omega
def intV (a : Nat) : Value := if a ≤ maxI then .tuple #[.int .i64 (a : Int), .bool true] else .tuple #[.int .i64 0, .bool false]
theorem int_ret (a : Nat) (ha : W256 a) : Ret Tryz.prog 146 #[wv a] (intV a) := by
 intro w
 have hc := cmp_ret a maxI ha maxI_lt
 rw [wv_of maxI_lim] at hc
 have A0 := Arr4.word w 24 a
 by_cases hle : a ≤ maxI
 ·have e0 : wrap64 (lim a 0) = (a : Int) := by
   have : lim a 0 = ((a % 18446744073709551616 : Nat) : Int) := rfl
   rw [this]
   unfold wrap64
   unfold maxI at hle
   omega
  have hv : intV a = .tuple #[.int .i64 (wrap64 (lim a 0)), .bool true] := by unfold intV; rw [if_pos hle, e0]
  have hw : wcmp a maxI ≤ 0 := by unfold wcmp; split <;> (try split) <;> omega
  rw [hv]
  have HC := Lib.hid hc
  generalize wcmp a maxI = c at *
  unfold wv at HC ⊢
  clear hc e0 hv hle ha
  go_enter Tryz.func146, Tryz.ntmps146
  go_wp2_with fail
  refine (HC.out _).mono ?_
  rintro e w1 ⟨rfl, hb1⟩
  have hx := (Arr4.below A0 hb1 (by simp)).cell (j := 0) (by omega)
  have BB := ((Below.refl _ w).alloc (Nat.le_refl _) (.cells #[.int .u64 (lim a 0), .int .u64 (lim a 1), .int .u64 (lim a 2), .int .u64 (lim a 3)] 24)).trans (hb1.mono (by simp))
  clear hb1 A0
  go_wp2
  go_ret2
  exact ⟨rfl, BB⟩
 ·have hv : intV a = .tuple #[.int .i64 0, .bool false] := by unfold intV; rw [if_neg hle]
  have hw : 0 < wcmp a maxI := by unfold wcmp; rw [if_neg (by omega), if_pos (by omega)]; omega
  rw [hv]
  have HC := Lib.hid hc
  generalize wcmp a maxI = c at *
  unfold wv at HC ⊢
  clear hc hv hle ha
  go_enter Tryz.func146, Tryz.ntmps146
  go_wp2_with fail
  refine (HC.out _).mono ?_
  rintro e w1 ⟨rfl, hb1⟩
  have BB := ((Below.refl _ w).alloc (Nat.le_refl _) (.cells #[.int .u64 (lim a 0), .int .u64 (lim a 1), .int .u64 (lim a 2), .int .u64 (lim a 3)] 24)).trans (hb1.mono (by simp))
  clear hb1 A0
  go_wp2
  go_ret2
  exact ⟨rfl, BB⟩
end
end Go.Proofs.YtnkhmgmganejmaaGreatDoor
