/- A range over a function that turns blocks of its own: the iterator's contract and the loop's law, told by how many rounds are over; what the caller holds must hang on older blocks alone. Condition: the iterator's contract. -/
import Derived.Test.YtkicmbdjihjgfaaGreatDoorG04
import Derived.Test.YtkicmbdjihjgfaaGreatDoorG25
import Derived.Deep.WholeRow
set_option maxRecDepth 100000
set_option maxHeartbeats 16000000
open List (setIfInBounds_toArray set_cons_succ set_cons_zero)
namespace Go.Proofs.YtkicmbdjihjgfaaGreatDoor
open Go Go.RowKit
def SeqB (F : Fence) (n : Nat) (P : Program) (g : Nat) (lb : Array Value) (enc : Nat → Array Value) (Kp : World → World → Prop) (N : Nat) (w : World) : Prop :=
 ∀ (l : Nat) (J Jx : Nat → World → Prop) (W : World), Below w.heap.size w W → (∀ s A X, J s A → Below W.heap.size A X → J s X) → (∀ s A X, Jx s A → Below W.heap.size A X → Jx s X) →
  (∀ k W1, k < N → J k W1 → YieldAt F (n - 1) P l (enc k) W1 fun e W' =>
   (e = .returned (.bool true) ∧ J (k + 1) W' ∧ Kp W1 W') ∨ (e = .returned (.bool false) ∧ Jx k W')) →
  J 0 W →
  CallsIn F n P g (#[.func (.yield l) #[] #[]] ++ lb) W fun e W' => (∃ v, e = .returned v) ∧ (J N W' ∨ ∃ k, k < N ∧ Jx k W')
variable {F : Fence} {n : Nat} {P : Program}
theorem wpIn_rangeFunc_B {g : Operand} {ps : Array Tmp} {assign body : Code} {Q : Exit → Act → World → Prop} {a : Act} {w : World}
  (hro : F.round = none) (h1 : 1 ≤ n) {gf : Nat} {lb : Array Value} (hg : a.eval g = .func (.func gf) #[] lb) (hFg : F.fn gf) (eg : ∀ args w, (callFunc gf args).run P w = .ok (.enter gf args) w)
  {enc : Nat → Array Value} {Kp : World → World → Prop} {N : Nat} (hseq : SeqB F (n - 1) P gf lb enc Kp N w)
  (hKt : ∀ {A B C : World}, Kp A B → Kp B C → Kp A C) (hKb : ∀ (W : World) (l : Nat) (o o' : Obj), w.heap.size ≤ l → W.heap[l]? = some o → o.isCells = false → o.isWalk = false → Kp W (W.putObj l o')) (hps : ∀ k, k < N → (enc k).size = ps.size)
  (I : Nat → World → Prop) (Ix : Code → Nat → World → Prop) (hI : OwnFrom w.heap.size I) (hIx : ∀ c, OwnFrom w.heap.size (Ix c)) (hIb : ∀ s A X, I s A → Below w.heap.size A X → I s X) (hIxb : ∀ c s A X, Ix c s A → Below w.heap.size A X → Ix c s X) (h0 : I 0 w) (Ax : Nat → Act → World → Prop) (hAx : ∀ k a', OwnFrom w.heap.size (fun (_ : Unit) W => Ax k a' W))
  (hassign : ∀ (l k : Nat) (W : World) (K : Act → World → Prop), k < N → I k W → (∀ a' W', KeepsFrom w.heap.size W W' → Kp W W' → I k W' → Ax k a' W' → K a' W') →
   assign.wpIn (F.inRound l) (n - 1 - 1) P (Exit.then K (fun _ _ _ => False)) { tmps := (ps.zip (enc k)).foldl (fun t (p, v) => t.setIfInBounds p v) a.tmps, defers := [] } W)
  (hbody : ∀ (l k : Nat) (a' : Act) (W : World), w.heap.size ≤ l → (∃ r, W.heap[l]? = some (.loop r)) → k < N → I k W → Ax k a' W → body.wpIn (F.inRound l) (n - 1 - 1) P (roundN w.heap.size Kp I Ix k W) a' W)
  (hdone : ∀ (D : Nat) (W : World), w.heap.size ≤ D → I N W → W.heap[D]? = some (.deferred (some [])) → Q .normal { a with defers := { target := .collected D, args := #[] } :: a.defers } W)
  (hstop : ∀ (D : Nat) (c : Code) (k : Nat) (W : World), w.heap.size ≤ D → k < N → Ix c k W → W.heap[D]? = some (.deferred (some [])) → c.wpIn F n P Q { a with defers := { target := .collected D, args := #[] } :: a.defers } W) :
  (Code.rangeFunc g ps assign body).wpIn F n P Q a w := by
 refine wpIn_rangeFunc ?_
 intro fn hfn
 rw [hro]
 obtain ⟨rec, hrec⟩ : ∃ rec : LoopState → Option Code → Loop, rec = fun st pe => { state := st, pending := pe, fn, tmps := a.tmps, params := ps, assign, body, defers := w.heap.size } := ⟨_, rfl⟩
 obtain ⟨W1, hW1⟩ : ∃ W1, (w.alloc (.deferred (some []))).alloc (.loop (rec .ready none)) = W1 := ⟨_, rfl⟩
 have hL1 : W1.heap[w.heap.size + 1]? = some (.loop (rec .ready none)) := by
  rw [← hW1]; have := World.alloc_heap_new (w.alloc (.deferred (some []))) (.loop (rec .ready none)); rwa [World.size_alloc] at this
 have hK1 : W1.heap[w.heap.size]? = some (.deferred (some [])) := by
  rw [← hW1]; exact (Below.heap_alloc _ _ _ (by simp)).trans (World.alloc_heap_new w _)
 have hI1 : I 0 W1 := by rw [← hW1]; exact hI.alloc _ (hI.alloc _ h0)
 have hb1 : Below w.heap.size w W1 := by
  rw [← hW1]; exact ((Below.refl _ w).alloc (Nat.le_refl _) _).alloc (by simp) _
 refine ⟨w.heap.size + 1, [{ target := .collected w.heap.size, args := #[] }], W1, { target := .fn (.func gf) lb, args := #[.func (.yield (w.heap.size + 1)) #[] #[]] }, W1, gf,
  #[.func (.yield (w.heap.size + 1)) #[] #[]] ++ lb, W1, ?_, ?_, ?_, ?_, fun _ => h1, ?_⟩
 ·rw [← hW1, hrec]; exact run_enterLoop_outer _ _ _ _ _
 ·simp only [resolve, hg]
  simp [go_sem]
 ·intro f' hf'; simp [Target.leads] at hf'; subst hf'; exact hFg
 ·simp [invoke, go_sem, eg]
 ·skip
  refine (hseq (w.heap.size + 1)
   (fun k W => I k W ∧ W.heap[w.heap.size + 1]? = some (.loop (rec .ready none)) ∧ W.heap[w.heap.size]? = some (.deferred (some [])))
   (fun k W => ∃ c, Ix c k W ∧ W.heap[w.heap.size + 1]? = some (.loop (rec .done (some c))) ∧ W.heap[w.heap.size]? = some (.deferred (some [])))
   W1 hb1
   (fun s A X hs hb => by
    have hsz : W1.heap.size = w.heap.size + 2 := by rw [← hW1]; simp
    exact ⟨hIb s A X hs.1 (hb.mono (by omega)), (hb.block _ (by omega)).trans hs.2.1, (hb.block _ (by omega)).trans hs.2.2⟩)
   (fun s A X hs hb => by
    have hsz : W1.heap.size = w.heap.size + 2 := by rw [← hW1]; simp
    obtain ⟨c, hc, hl, hk⟩ := hs
    exact ⟨c, hIxb c s A X hc (hb.mono (by omega)), (hb.block _ (by omega)).trans hl, (hb.block _ (by omega)).trans hk⟩)
   ?_ ⟨hI1, hL1, hK1⟩).mono ?_
  ·rintro k W hkN ⟨hi, hl, hk⟩
   have hlt : w.heap.size + 1 < W.heap.size := (Array.getElem?_eq_some_iff.1 hl).1
   have hy := run_yield (P := P) (args := enc k) hl (by rw [hrec]; exact hps k hkN)
   rw [hrec] at hy
   refine ⟨fn, _, assign, body, hy, roundIn_of_wpIn hfn (hassign _ k W _ hkN hi ?_)⟩
   clear hy
   intro a' Wa hkfa hkpa hia hax
   replace hl := hkfa.same _ _ (by omega) hl rfl
   replace hk := hkfa.same _ _ (Nat.le_refl _) hk rfl
   replace hlt : w.heap.size + 1 < Wa.heap.size := (Array.getElem?_eq_some_iff.1 hl).1
   refine ⟨_, run_beginRound hl (by rw [hrec]), ?_⟩
   have hl2 : (Wa.putObj (w.heap.size + 1) (.loop { rec .ready none with state := .busy })).heap[w.heap.size + 1]? = some (.loop { rec .ready none with state := .busy }) := World.putObj_heap_same hlt
   have hk2 : (Wa.putObj (w.heap.size + 1) (.loop { rec .ready none with state := .busy })).heap[w.heap.size]? = some (.deferred (some [])) := (World.putObj_heap_other (by omega)).trans hk
   have hw2 : Kp Wa (Wa.putObj (w.heap.size + 1) (.loop { rec .ready none with state := .busy })) := hKb _ _ _ _ (by omega) hl rfl rfl
   refine wpIn_mono (hbody _ k a' _ (by omega) ⟨_, hl2⟩ hkN (hI.putObj _ hia (by omega) hl rfl) ((hAx k a').putObj (s := ()) _ hax (by omega) hl rfl)) ?_
   have fin : ∀ (jump : Option Code) (W3 : World), KeepsFrom w.heap.size (Wa.putObj (w.heap.size + 1) (.loop { rec .ready none with state := .busy })) W3 →
     (Instr.endRound (w.heap.size + 1) jump).run P W3 = .ok (.bool jump.isNone) (W3.putObj (w.heap.size + 1) (.loop (rec (if jump.isNone then .ready else .done) jump))) ∧
     W3.heap[w.heap.size + 1]? = some (.loop { rec .ready none with state := .busy }) ∧
     (W3.putObj (w.heap.size + 1) (.loop (rec (if jump.isNone then .ready else .done) jump))).heap[w.heap.size + 1]? = some (.loop (rec (if jump.isNone then .ready else .done) jump)) ∧
     (W3.putObj (w.heap.size + 1) (.loop (rec (if jump.isNone then .ready else .done) jump))).heap[w.heap.size]? = some (.deferred (some [])) := fun jump W3 hk3 => by
    have hl3 := hk3.same _ _ (by omega) hl2 rfl
    have := run_endRound (P := P) jump hl3
    rw [hrec] at this ⊢
    exact ⟨this, by rw [hrec] at hl3; exact hl3, World.putObj_heap_same (Array.getElem?_eq_some_iff.1 hl3).1, (World.putObj_heap_other (by omega)).trans (hk3.same _ _ (Nat.le_refl _) hk2 rfl)⟩
   rintro e a3 W3 hp
   cases e with
   | normal =>
    obtain ⟨hk3, hkp3, hi3⟩ := hp
    obtain ⟨hr, hl3, hl4, hk4⟩ := fin none W3 hk3
    exact ⟨_, _, hr, .inl ⟨rfl, ⟨hI.putObj _ hi3 (by omega) hl3 rfl, hl4, hk4⟩, hKt hkpa (hKt (hKt hw2 hkp3) (hKb _ _ _ _ (by omega) hl3 rfl rfl))⟩⟩
   | ret =>
    obtain ⟨hk3, hi3⟩ := hp
    obtain ⟨hr, hl3, hl4, hk4⟩ := fin (some .ret) W3 hk3
    exact ⟨_, _, hr, .inr ⟨rfl, .ret, (hIx _).putObj _ hi3 (by omega) hl3 rfl, hl4, hk4⟩⟩
   | exit id =>
    obtain ⟨hk3, hi3⟩ := hp
    obtain ⟨hr, hl3, hl4, hk4⟩ := fin (some (.exit id)) W3 hk3
    exact ⟨_, _, hr, .inr ⟨rfl, .exit id, (hIx _).putObj _ hi3 (by omega) hl3 rfl, hl4, hk4⟩⟩
   | goto t =>
    obtain ⟨hk3, hi3⟩ := hp
    obtain ⟨hr, hl3, hl4, hk4⟩ := fin (some (.goto t)) W3 hk3
    exact ⟨_, _, hr, .inr ⟨rfl, .goto t, (hIx _).putObj _ hi3 (by omega) hl3 rfl, hl4, hk4⟩⟩
   | panic ch => exact hp.elim
   | outgrown => exact hp.elim
  ·rintro e W2 ⟨⟨v, rfl⟩, (⟨hi, hl, hk⟩ | ⟨k, hkN, c, hi, hl, hk⟩)⟩
   ·exact ⟨none, _, by have := run_endLoop (P := P) hl (by rw [hrec]; simp); rw [hrec] at this; exact this, hdone _ _ (Nat.le_refl _) (hI.putObj _ hi (by omega) hl rfl) ((World.putObj_heap_other (by omega)).trans hk)⟩
   ·exact ⟨some c, _, by have := run_endLoop (P := P) hl (by rw [hrec]; simp); rw [hrec] at this; exact this, hstop _ c k _ (Nat.le_refl _) hkN ((hIx c).putObj _ hi (by omega) hl rfl) ((World.putObj_heap_other (by omega)).trans hk)⟩
end Go.Proofs.YtkicmbdjihjgfaaGreatDoor
namespace Go.Proofs.YtkicmbdjihjgfaaGreatDoor
open Go Go.RowKit Go.Shelf
attribute [local go_sem] Oper.semAt_some
def KC (n : Nat) (A X : World) : Prop := ∀ b o, n ≤ b → A.heap[b]? = some o → o.isCells = true → X.heap[b]? = some o
theorem KC.trans {n : Nat} {A B C : World} (h : KC n A B) (k : KC n B C) : KC n A C := fun b o hb ho hc => k b o hb (h b o hb ho hc) hc
theorem KC.put {n : Nat} (W : World) (l : Nat) (o o' : Obj) (_ : n ≤ l) (hl : W.heap[l]? = some o) (ho : o.isCells = false) (_ : o.isWalk = false) : KC n W (W.putObj l o') := fun b ob _ hob hc => by
 refine (World.putObj_heap_other (fun e => ?_)).trans hob
 subst e
 rw [hl] at hob
 cases hob
 rw [ho] at hc
 cases hc
theorem KC.later {n : Nat} {A X : World} (h : Below A.heap.size A X) : KC n A X := fun b o _ ho _ => (h.block b (Array.getElem?_eq_some_iff.1 ho).1).trans ho
theorem KC.set {n : Nat} (A : World) {p : Addr} (hp : p.block < n) (v : Value) : KC n A (A.setCell p v) := fun b o hb ho _ => (Below.heap_setCell A p v b (by omega)).trans ho
theorem Has.kc {n : Nat} {A X : World} {B : Nat} {t : TypeId} {cs : Array Value} (h : Has A B t cs) (hk : KC n A X) (hn : n ≤ B) : Has X B t cs := hk B _ hn h rfl
def wkV (k : Nat) : Array Value := #[.int .i64 (((k + 1) * (k + 2) / 2 : Nat) : Int), .agg #[.int .u64 (((wx k).1 : Nat) : Int), .int .u64 (((wx k).2 : Nat) : Int)]]
theorem walk_seq (n : Nat) (hn : 1 ≤ n) (w : World) : SeqB Fence.wide n Tryz.prog 134 #[] wkV (KC w.heap.size) 24 w := by
 intro l J Jx W hW hJA _ hY h0
 refine callsIn_of_wp Tryz.func134 rfl trivial ?_ rfl
 simp only [Tryz.ntmps134, List.size_toArray, List.length_cons, List.length_nil, Nat.reduceAdd, Nat.reduceSub, Array.replicate_succ, Array.replicate_zero, List.push_toArray, List.append_toArray, List.nil_append, List.cons_append]
 have HJA := hid hJA
 have hwW := hW.size
 have L0 := Has.new W 162 #[.int .u64 1, .int .u64 0]
 have J0 := hJA _ _ _ h0 ((Below.refl W.heap.size W).alloc (Nat.le_refl _) (.cells #[.int .u64 1, .int .u64 0] 162))
 have hs0 : W.heap.size < (W.alloc (.cells #[.int .u64 1, .int .u64 0] 162)).heap.size := by simp
 clear hJA h0
 gi_wp2
 gi_loopw [5] (fun i wr => ∃ k : Nat, k ≤ 24 ∧ i = .int .i64 k ∧ J k wr ∧ Has wr W.heap.size 162 #[.int .u64 (((wx k).1 : Nat) : Int), .int .u64 (((wx k).2 : Nat) : Int)] ∧ W.heap.size < wr.heap.size) (fun i _ => 24 - (intOf i).toNat)
 case atStart => exact ⟨0, Nat.zero_le _, rfl, J0, L0, hs0⟩
 case round =>
  obtain ⟨k, hk, rfl, hJs, hL, hsz⟩ := hrel
  clear J0 L0 hs0
  by_cases hlt : k < 24
  ·obtain ⟨fn, tmps, assign, body, hy, hR⟩ := hY k wr hlt hJs
   unfold wkV at hy
   have hkI : (k : Int) < 24 := by omega
   have m0 : 0 ≤ ((k : Int) + 1) * ((k : Int) + 2) := by
    have := Int.mul_nonneg (show 0 ≤ (k : Int) + 1 by omega) (show 0 ≤ (k : Int) + 2 by omega); exact this
   have m1 : ((k : Int) + 1) * ((k : Int) + 2) ≤ 25 * 26 := Int.mul_le_mul (by omega) (by omega) (by omega) (by omega)
   have m2 : (((k : Int) + 1) * ((k : Int) + 2)).tdiv 2 = (((k + 1) * (k + 2) / 2 : Nat) : Int) := by
    rw [Int.tdiv_eq_ediv_of_nonneg m0, Int.natCast_ediv, Int.natCast_mul]; rfl
   have c0 := hL.cell 0 _ rfl
   have c1 := hL.cell 1 _ rfl
   have hx := (wx_lt k).1
   have hy5 := (wx_lt k).2
   have e1 : (((wx (k + 1)).1 : Nat) : Int) = (((wx k).2 : Nat) : Int) := rfl
   have e2 : (((wx (k + 1)).2 : Nat) : Int) = (2 * (((wx k).1 : Nat) : Int) + 3 * (((wx k).2 : Nat) : Int)) % 5 := by
    show (((2 * (wx k).1 + 3 * (wx k).2) % 5 : Nat) : Int) = _
    omega
   have HN := hid (next_ret _ _ ⟨Int.natCast_nonneg (wx k).1, by omega⟩ ⟨Int.natCast_nonneg (wx k).2, by omega⟩)
   have HE := hid (And.intro e1 e2)
   have HL := hid hL
   have HZ := hid hsz
   clear hx hy5 e1 e2 hL hsz
   have t0 : 0 ≤ (((k + 1) * (k + 2) / 2 : Nat) : Int) := Int.natCast_nonneg _
   have t1 : (((k + 1) * (k + 2) / 2 : Nat) : Int) < 1000 := by
    have : (k + 1) * (k + 2) ≤ 25 * 26 := Nat.mul_le_mul (by omega) (by omega)
    omega
   generalize (((k + 1) * (k + 2) / 2 : Nat) : Int) = tr at *
   gi_wp2
   refine hR.mono ?_
   rintro e W3 (⟨rfl, hJ3, hk3⟩ | ⟨rfl, hJx3⟩)
   ·have L3 := HL.out.kc hk3 hwW
    have d0 := L3.cell 0 _ rfl
    have d1 := L3.cell 1 _ rfl
    have HJ3 := hid hJ3
    clear c0 c1 hJ3 hk3
    gi_wp2_with fail
    refine ⟨trivial, (callsIn_free free_wide (HN.out _)).mono ?_⟩
    rintro e W4 ⟨rfl, q⟩
    have L4 := L3.later q
    have J4 := hid (HJA.out _ _ _ HJ3.out (q.mono (by have := L3.lt; omega)))
    have f0 := L4.frozen 0
    have f1 := L4.frozen 1
    have g0 := L4.cell 0 _ rfl
    have g1 := L4.cell 1 _ rfl
    have HL4 := hid L4
    clear d0 d1 L3 L4 q
    gi_wp2
    go_roundw
    case rel =>
     refine ⟨k + 1, by omega, by simp, HJA.out _ _ _ J4.out (((Below.refl W.heap.size W4).setCell (Nat.le_refl _) _).setCell (Nat.le_refl _) _), ?_, by have := HL4.out.lt; simp; omega⟩
     rw [HE.out.1, HE.out.2]
     exact (HL4.out.set 0 _).set 1 _
    case measure => simp [intOf]; omega
   ·gi_wp2
    refine bodyPost_ret (results_none rfl _ _ _) rfl ?_
    exact ⟨⟨_, rfl⟩, .inr ⟨k, hlt, hJx3⟩⟩
  ·obtain rfl : k = 24 := by omega
   gi_wp2
   go_end0
   exact ⟨⟨_, rfl⟩, .inl hJs⟩
end Go.Proofs.YtkicmbdjihjgfaaGreatDoor
namespace Go.Proofs.YtkicmbdjihjgfaaGreatDoor
open Go Go.RowKit Go.Shelf
attribute [local go_sem] Oper.semAt_some Grows wide_fn field0
theorem one_luC (n : Nat) (A : Nat → Nat) : (luC n A).all (·.oneCell') = true := by
 rw [Array.all_eq_true]
 intro i hi
 simp [luC, Value.oneCell']
theorem info25 : (Tryz.prog.info? 112).map (·.size) = some 25 := by kernel_rfl
theorem Has.rowK {W : World} {B : Nat} {t : TypeId} {cs cs' : Array Value} (h : Has W B t cs) : Has (W.setRow B cs') B t cs' := by
 obtain ⟨hlt, he⟩ := Array.getElem?_eq_some_iff.1 h
 show (W.heap.modify B _)[B]? = _
 rw [Array.getElem?_eq_getElem (by rw [Array.size_modify]; exact hlt), Array.getElem_modify_self, he]
theorem setRow_other {W : World} {B b : Nat} {cs : Array Value} (h : b ≠ B) : (W.setRow B cs).heap[b]? = W.heap[b]? := by
 show (W.heap.modify B _)[b]? = _
 rw [Array.getElem?_modify, if_neg (fun e => h e.symm)]
theorem below_row {w W : World} {n : Nat} (h : Below n w W) {B : Nat} (hB : n ≤ B) (cs : Array Value) : Below n w (W.setRow B cs) :=
 ⟨h.os, h.tape, h.output, by show _ ≤ (W.heap.modify B _).size; rw [Array.size_modify]; exact h.size, fun k hk => (setRow_other (by omega)).trans (h.block k hk)⟩
theorem wpListIn_storeB {F : Fence} {n : Nat} {ops : Array Oper} {Q : Exit → Act → World → Prop} {a : Act} {w : World} {rest : List Oper} {o : Oper} (hF : Free F) (hg : o.guard = none) (ty : TypeId) (x y : Operand) (ho : o.op = .store ty x y) (B : Nat) (cells : Array Value)
  (hx : a.eval x = .pointer (some ⟨B, 0, none⟩)) (hy : a.eval y = .agg cells) (t : TypeId) (old : Array Value) (hh : Has w B t old) (hi : (Tryz.prog.info? ty).map (·.size) = some cells.size) (hold : old.size = cells.size) (h1 : cells.all (·.oneCell') = true)
  (h : wpListIn F n Tryz.prog ops Q rest (a.put o.dst undef) (w.setRow B cells)) : wpListIn F n Tryz.prog ops Q (o :: rest) a w :=
 wpListIn_plain hg fun K hK => by
  unfold Oper.wpIn
  refine ⟨fun f _ => hF.fn f, ?_⟩
  rw [Oper.semAt_eq _ _ _ (by intro c; rw [ho]; simp)]
  unfold execOp
  simp only [ho, hx, hy, Instr.storeAt, Instr.sureAddr, Sem.run_bind, Sem.run_pure, Result.andThen_ok, run_storeVar_row w B t ty old cells hh hi hold h1]
  exact hK _ _ h
theorem wpListIn_loadB {F : Fence} {n : Nat} {ops : Array Oper} {Q : Exit → Act → World → Prop} {a : Act} {w : World} {rest : List Oper} {o : Oper} (hF : Free F) (hg : o.guard = none) (ty : TypeId) (x : Operand) (ho : o.op = .load ty x) (B : Nat) (hx : a.eval x = .pointer (some ⟨B, 0, none⟩)) (cs : Array Value) (hr : (loadVar ty ⟨B, 0, none⟩).run Tryz.prog w = .ok (.agg cs) w)
  (h : wpListIn F n Tryz.prog ops Q rest (a.put o.dst (.agg cs)) w) : wpListIn F n Tryz.prog ops Q (o :: rest) a w :=
 wpListIn_plain hg fun K hK => by
  unfold Oper.wpIn
  refine ⟨fun f _ => hF.fn f, ?_⟩
  rw [Oper.semAt_eq _ _ _ (by intro c; rw [ho]; simp)]
  unfold execOp
  simp only [ho, hx, Instr.loadAt, Instr.sureAddr, Sem.run_bind, Sem.run_pure, Result.andThen_ok, hr]
  exact hK _ _ h
theorem load25 {W : World} {B : Nat} {A : Nat → Nat} (h : Has W B 112 (luC 25 A)) : (loadVar 112 ⟨B, 0, none⟩).run Tryz.prog W = .ok (.agg (luC 25 A)) W :=
 run_loadVar_row _ _ _ _ _ (0, 0) _ h Tryz.underlying112 rfl (by rw [luC_size]; exact info25)
theorem infoL (A : Nat → Nat) : (Tryz.prog.info? 112).map (·.size) = some (luC 25 A).size := by rw [luC_size]; exact info25
structure TuSt (w : World) (B : Nat) (A M : Nat → Nat) (W : World) : Prop where
 A : Has W B 112 (luC 25 A)
 P : Has W w.heap.size 118 #[.pointer (some ⟨B, 0, none⟩)]
 R : Has W (w.heap.size + 1) 112 (luC 25 fun _ => 0)
 M : Has W (w.heap.size + 1 + 1) 112 (luC 25 M)
 Q : Below w.heap.size w W
theorem TuSt.own (w : World) (B n : Nat) (hn : w.heap.size ≤ n) (A : Nat → Nat) (M : Nat → Nat → Nat) : OwnFrom n (fun (k : Nat) W => TuSt w B A (M k) W) := fun s X Y row hs hg hr =>
 ⟨hs.A.grown hg (fun r e => (hr r e).2), hs.P.grown hg (fun r e => (hr r e).2), hs.R.grown hg (fun r e => (hr r e).2), hs.M.grown hg (fun r e => (hr r e).2),
  ⟨hg.os.trans hs.Q.os, hg.tape.trans hs.Q.tape, hg.output.trans hs.Q.output, Nat.le_trans hs.Q.size hg.size, fun k hk => (hg.block k (Nat.lt_of_lt_of_le hk hs.Q.size) (fun e => by have := (hr k e.symm).1; omega)).trans (hs.Q.block k hk)⟩⟩
theorem TuSt.below {w : World} {B n : Nat} (hn : w.heap.size + 1 + 1 < n) (hB : B < w.heap.size) {A M : Nat → Nat} {W X : World} (h : TuSt w B A M W) (hb : Below n W X) : TuSt w B A M X :=
 ⟨h.A.below hb (by omega), h.P.below hb (by omega), h.R.below hb (by omega), h.M.below hb (by omega), h.Q.trans (hb.mono (by omega))⟩
theorem TuSt.later {w : World} {B : Nat} {A M : Nat → Nat} {W X : World} (h : TuSt w B A M W) (hb : Below W.heap.size W X) : TuSt w B A M X :=
 ⟨h.A.later hb, h.P.later hb, h.R.later hb, h.M.later hb, h.Q.trans (hb.mono h.Q.size)⟩
theorem TuSt.put {w : World} {B : Nat} {A M M' : Nat → Nat} {W : World} (h : TuSt w B A M W) (hB : B < w.heap.size) (j v : Nat) (hM : ∀ i, i < 25 → M' i = if i = j then v else M i) :
  TuSt w B A M' (W.setCell ⟨w.heap.size + 1 + 1, j, none⟩ (.int .u64 ((v : Nat) : Int))) :=
 ⟨h.A.other (by simp; omega) _, h.P.other (by simp; omega) _, h.R.other (by simp) _, by have := h.M.set j (.int .u64 ((v : Nat) : Int)); rwa [luC_set 25 M M' j v hM] at this, h.Q.setCell (by simp; omega) _⟩
theorem wl_lt (k : Nat) : wl k < 25 := by have := wx_lt k; unfold wl; omega
theorem turned_calls (B : Nat) (A : Nat → Nat) (hA : ∀ j, A j < 2 ^ 64) (w : World) (hB : Has w B 112 (luC 25 A)) :
  Calls Tryz.prog 106 #[.pointer (some ⟨B, 0, none⟩)] w fun e w' => e = .returned (.agg (luC 25 (turnK A 24))) ∧ Below w.heap.size w w' := by
 have hBl := hB.lt
 have hmx : Tryz.prog.follows .mixedOrders = true := by kernel_rfl
 refine (callsIn_wide (n := 8)).1 ?_
 refine callsIn_of_wp_marks Tryz.func106 rfl trivial ?_ rfl
 simp only [Tryz.ntmps106, List.size_toArray, List.length_cons, List.length_nil, Nat.reduceAdd, Nat.reduceSub, Array.replicate_succ, Array.replicate_zero, List.push_toArray, List.append_toArray, List.nil_append, List.cons_append]
 have kA := ((hB.alloc (.cells #[.pointer (some ⟨B, 0, none⟩)] 118)).alloc (.cells #[.int .u64 0, .int .u64 0, .int .u64 0, .int .u64 0, .int .u64 0, .int .u64 0, .int .u64 0, .int .u64 0, .int .u64 0, .int .u64 0, .int .u64 0, .int .u64 0, .int .u64 0, .int .u64 0, .int .u64 0, .int .u64 0, .int .u64 0, .int .u64 0, .int .u64 0, .int .u64 0, .int .u64 0, .int .u64 0, .int .u64 0, .int .u64 0, .int .u64 0] 112)).cell 0 _ (luC_get 25 A 0 (by omega))
 have kP := ((Has.new w 118 #[.pointer (some ⟨B, 0, none⟩)]).alloc (.cells #[.int .u64 0, .int .u64 0, .int .u64 0, .int .u64 0, .int .u64 0, .int .u64 0, .int .u64 0, .int .u64 0, .int .u64 0, .int .u64 0, .int .u64 0, .int .u64 0, .int .u64 0, .int .u64 0, .int .u64 0, .int .u64 0, .int .u64 0, .int .u64 0, .int .u64 0, .int .u64 0, .int .u64 0, .int .u64 0, .int .u64 0, .int .u64 0, .int .u64 0] 112)).cell 0 _ rfl
 have LM := Has.new ((w.alloc (.cells #[.pointer (some ⟨B, 0, none⟩)] 118)).alloc (.cells #[.int .u64 0, .int .u64 0, .int .u64 0, .int .u64 0, .int .u64 0, .int .u64 0, .int .u64 0, .int .u64 0, .int .u64 0, .int .u64 0, .int .u64 0, .int .u64 0, .int .u64 0, .int .u64 0, .int .u64 0, .int .u64 0, .int .u64 0, .int .u64 0, .int .u64 0, .int .u64 0, .int .u64 0, .int .u64 0, .int .u64 0, .int .u64 0, .int .u64 0] 112)) 112 #[.int .u64 0, .int .u64 0, .int .u64 0, .int .u64 0, .int .u64 0, .int .u64 0, .int .u64 0, .int .u64 0, .int .u64 0, .int .u64 0, .int .u64 0, .int .u64 0, .int .u64 0, .int .u64 0, .int .u64 0, .int .u64 0, .int .u64 0, .int .u64 0, .int .u64 0, .int .u64 0, .int .u64 0, .int .u64 0, .int .u64 0, .int .u64 0, .int .u64 0]
 simp only [World.size_alloc] at LM
 have HM := hid LM
 have H1 := hid (one_luC 25 (turnK A 0))
 clear LM
 gi_wp2_with (refine wpListIn_storeB free_wide rfl _ _ _ rfl (w.heap.size + 1 + 1) #[.int .u64 ((A 0 : Nat) : Int), .int .u64 0, .int .u64 0, .int .u64 0, .int .u64 0, .int .u64 0, .int .u64 0, .int .u64 0, .int .u64 0, .int .u64 0, .int .u64 0, .int .u64 0, .int .u64 0, .int .u64 0, .int .u64 0, .int .u64 0, .int .u64 0, .int .u64 0, .int .u64 0, .int .u64 0, .int .u64 0, .int .u64 0, .int .u64 0, .int .u64 0, .int .u64 0] rfl rfl _ #[.int .u64 0, .int .u64 0, .int .u64 0, .int .u64 0, .int .u64 0, .int .u64 0, .int .u64 0, .int .u64 0, .int .u64 0, .int .u64 0, .int .u64 0, .int .u64 0, .int .u64 0, .int .u64 0, .int .u64 0, .int .u64 0, .int .u64 0, .int .u64 0, .int .u64 0, .int .u64 0, .int .u64 0, .int .u64 0, .int .u64 0, .int .u64 0, .int .u64 0] HM.out info25 rfl H1.out ?_)
 have hI0 : TuSt w B A (turnK A 0) (((((w.alloc (.cells #[.pointer (some ⟨B, 0, none⟩)] 118)).alloc (.cells #[.int .u64 0, .int .u64 0, .int .u64 0, .int .u64 0, .int .u64 0, .int .u64 0, .int .u64 0, .int .u64 0, .int .u64 0, .int .u64 0, .int .u64 0, .int .u64 0, .int .u64 0, .int .u64 0, .int .u64 0, .int .u64 0, .int .u64 0, .int .u64 0, .int .u64 0, .int .u64 0, .int .u64 0, .int .u64 0, .int .u64 0, .int .u64 0, .int .u64 0] 112)).alloc (.cells #[.int .u64 0, .int .u64 0, .int .u64 0, .int .u64 0, .int .u64 0, .int .u64 0, .int .u64 0, .int .u64 0, .int .u64 0, .int .u64 0, .int .u64 0, .int .u64 0, .int .u64 0, .int .u64 0, .int .u64 0, .int .u64 0, .int .u64 0, .int .u64 0, .int .u64 0, .int .u64 0, .int .u64 0, .int .u64 0, .int .u64 0, .int .u64 0, .int .u64 0] 112))).setRow (w.heap.size + 1 + 1) #[.int .u64 ((A 0 : Nat) : Int), .int .u64 0, .int .u64 0, .int .u64 0, .int .u64 0, .int .u64 0, .int .u64 0, .int .u64 0, .int .u64 0, .int .u64 0, .int .u64 0, .int .u64 0, .int .u64 0, .int .u64 0, .int .u64 0, .int .u64 0, .int .u64 0, .int .u64 0, .int .u64 0, .int .u64 0, .int .u64 0, .int .u64 0, .int .u64 0, .int .u64 0, .int .u64 0]) := by
  have L1 := ((hB.alloc (.cells #[.pointer (some ⟨B, 0, none⟩)] 118)).alloc (.cells #[.int .u64 0, .int .u64 0, .int .u64 0, .int .u64 0, .int .u64 0, .int .u64 0, .int .u64 0, .int .u64 0, .int .u64 0, .int .u64 0, .int .u64 0, .int .u64 0, .int .u64 0, .int .u64 0, .int .u64 0, .int .u64 0, .int .u64 0, .int .u64 0, .int .u64 0, .int .u64 0, .int .u64 0, .int .u64 0, .int .u64 0, .int .u64 0, .int .u64 0] 112)).alloc (.cells #[.int .u64 0, .int .u64 0, .int .u64 0, .int .u64 0, .int .u64 0, .int .u64 0, .int .u64 0, .int .u64 0, .int .u64 0, .int .u64 0, .int .u64 0, .int .u64 0, .int .u64 0, .int .u64 0, .int .u64 0, .int .u64 0, .int .u64 0, .int .u64 0, .int .u64 0, .int .u64 0, .int .u64 0, .int .u64 0, .int .u64 0, .int .u64 0, .int .u64 0] 112)
  have L2 := ((Has.new w 118 #[.pointer (some ⟨B, 0, none⟩)]).alloc (.cells #[.int .u64 0, .int .u64 0, .int .u64 0, .int .u64 0, .int .u64 0, .int .u64 0, .int .u64 0, .int .u64 0, .int .u64 0, .int .u64 0, .int .u64 0, .int .u64 0, .int .u64 0, .int .u64 0, .int .u64 0, .int .u64 0, .int .u64 0, .int .u64 0, .int .u64 0, .int .u64 0, .int .u64 0, .int .u64 0, .int .u64 0, .int .u64 0, .int .u64 0] 112)).alloc (.cells #[.int .u64 0, .int .u64 0, .int .u64 0, .int .u64 0, .int .u64 0, .int .u64 0, .int .u64 0, .int .u64 0, .int .u64 0, .int .u64 0, .int .u64 0, .int .u64 0, .int .u64 0, .int .u64 0, .int .u64 0, .int .u64 0, .int .u64 0, .int .u64 0, .int .u64 0, .int .u64 0, .int .u64 0, .int .u64 0, .int .u64 0, .int .u64 0, .int .u64 0] 112)
  have L3 := (Has.new (w.alloc (.cells #[.pointer (some ⟨B, 0, none⟩)] 118)) 112 #[.int .u64 0, .int .u64 0, .int .u64 0, .int .u64 0, .int .u64 0, .int .u64 0, .int .u64 0, .int .u64 0, .int .u64 0, .int .u64 0, .int .u64 0, .int .u64 0, .int .u64 0, .int .u64 0, .int .u64 0, .int .u64 0, .int .u64 0, .int .u64 0, .int .u64 0, .int .u64 0, .int .u64 0, .int .u64 0, .int .u64 0, .int .u64 0, .int .u64 0]).alloc (.cells #[.int .u64 0, .int .u64 0, .int .u64 0, .int .u64 0, .int .u64 0, .int .u64 0, .int .u64 0, .int .u64 0, .int .u64 0, .int .u64 0, .int .u64 0, .int .u64 0, .int .u64 0, .int .u64 0, .int .u64 0, .int .u64 0, .int .u64 0, .int .u64 0, .int .u64 0, .int .u64 0, .int .u64 0, .int .u64 0, .int .u64 0, .int .u64 0, .int .u64 0] 112)
  simp only [World.size_alloc] at L3
  have Q := (((Below.refl w.heap.size w).alloc (Nat.le_refl _) (.cells #[.pointer (some ⟨B, 0, none⟩)] 118)).alloc (by simp) (.cells #[.int .u64 0, .int .u64 0, .int .u64 0, .int .u64 0, .int .u64 0, .int .u64 0, .int .u64 0, .int .u64 0, .int .u64 0, .int .u64 0, .int .u64 0, .int .u64 0, .int .u64 0, .int .u64 0, .int .u64 0, .int .u64 0, .int .u64 0, .int .u64 0, .int .u64 0, .int .u64 0, .int .u64 0, .int .u64 0, .int .u64 0, .int .u64 0, .int .u64 0] 112)).alloc (by simp; omega) (.cells #[.int .u64 0, .int .u64 0, .int .u64 0, .int .u64 0, .int .u64 0, .int .u64 0, .int .u64 0, .int .u64 0, .int .u64 0, .int .u64 0, .int .u64 0, .int .u64 0, .int .u64 0, .int .u64 0, .int .u64 0, .int .u64 0, .int .u64 0, .int .u64 0, .int .u64 0, .int .u64 0, .int .u64 0, .int .u64 0, .int .u64 0, .int .u64 0, .int .u64 0] 112)
  exact ⟨(setRow_other (by omega)).trans L1, (setRow_other (by omega)).trans L2, (setRow_other (by omega)).trans L3, HM.out.rowK, below_row Q (by omega) _⟩
 obtain ⟨W0, hW0⟩ : ∃ W0, (((((w.alloc (.cells #[.pointer (some ⟨B, 0, none⟩)] 118)).alloc (.cells #[.int .u64 0, .int .u64 0, .int .u64 0, .int .u64 0, .int .u64 0, .int .u64 0, .int .u64 0, .int .u64 0, .int .u64 0, .int .u64 0, .int .u64 0, .int .u64 0, .int .u64 0, .int .u64 0, .int .u64 0, .int .u64 0, .int .u64 0, .int .u64 0, .int .u64 0, .int .u64 0, .int .u64 0, .int .u64 0, .int .u64 0, .int .u64 0, .int .u64 0] 112)).alloc (.cells #[.int .u64 0, .int .u64 0, .int .u64 0, .int .u64 0, .int .u64 0, .int .u64 0, .int .u64 0, .int .u64 0, .int .u64 0, .int .u64 0, .int .u64 0, .int .u64 0, .int .u64 0, .int .u64 0, .int .u64 0, .int .u64 0, .int .u64 0, .int .u64 0, .int .u64 0, .int .u64 0, .int .u64 0, .int .u64 0, .int .u64 0, .int .u64 0, .int .u64 0] 112))).setRow (w.heap.size + 1 + 1) #[.int .u64 ((A 0 : Nat) : Int), .int .u64 0, .int .u64 0, .int .u64 0, .int .u64 0, .int .u64 0, .int .u64 0, .int .u64 0, .int .u64 0, .int .u64 0, .int .u64 0, .int .u64 0, .int .u64 0, .int .u64 0, .int .u64 0, .int .u64 0, .int .u64 0, .int .u64 0, .int .u64 0, .int .u64 0, .int .u64 0, .int .u64 0, .int .u64 0, .int .u64 0, .int .u64 0]) = W0 := ⟨_, rfl⟩
 have hsz : W0.heap.size = w.heap.size + 3 := by rw [← hW0]; unfold World.setRow; simp
 rw [hW0] at hI0 ⊢
 clear hW0 HM H1 kA kP
 simp only [Act.put]
 generalize Value.agg #[.int .u64 ((A 0 : Nat) : Int), .int .u64 0, .int .u64 0, .int .u64 0, .int .u64 0, .int .u64 0, .int .u64 0, .int .u64 0, .int .u64 0, .int .u64 0, .int .u64 0, .int .u64 0, .int .u64 0, .int .u64 0, .int .u64 0, .int .u64 0, .int .u64 0, .int .u64 0, .int .u64 0, .int .u64 0, .int .u64 0, .int .u64 0, .int .u64 0, .int .u64 0, .int .u64 0] = v10
 generalize Value.int .u64 ((A 0 : Nat) : Int) = v9
 refine wpIn_rangeFunc_B rfl (by omega) (gf := 134) (lb := #[]) rfl trivial (enters_of Tryz.func134 (by kernel_rfl) rfl)
  (walk_seq _ (by omega) W0) KC.trans (fun W l o o' hl h1 h2 h3 => KC.put W l o o' hl h1 h2 h3) (fun _ _ => rfl)
  (fun k W => TuSt w B A (turnK A k) W) (fun _ _ _ => False) (TuSt.own w B _ (by omega) A (turnK A)) (fun _ _ _ _ _ hs _ _ => hs)
  (fun s V X hs hb => hs.below (by omega) hBl hb) (fun _ _ _ _ hs _ => hs) hI0
  (fun k a' V => ∃ b, Has V b 162 #[.int .u64 (((wx k).1 : Nat) : Int), .int .u64 (((wx k).2 : Nat) : Int)] ∧ a' = { tmps := #[.pointer (some ⟨B, 0, none⟩), .pointer (some ⟨w.heap.size, 0, none⟩), .pointer (some ⟨w.heap.size + 1, 0, none⟩), .pointer (some ⟨w.heap.size + 1 + 1, 0, none⟩), .int .i64 (((k + 1) * (k + 2) / 2 : Nat) : Int), .pointer (some ⟨b, 0, none⟩), .pointer (some ⟨B, 0, none⟩), .pointer (some ⟨B, 0, none⟩), .pointer (some ⟨B, 0, none⟩), v9, v10, .int .i64 (((k + 1) * (k + 2) / 2 : Nat) : Int), .agg #[.int .u64 (((wx k).1 : Nat) : Int), .int .u64 (((wx k).2 : Nat) : Int)], undef, undef, undef, undef, undef, undef, undef, undef, undef, undef, undef, undef, undef], defers := [] })
  (fun k a' _ X Y row hs hg hr => by obtain ⟨b, hH, e⟩ := hs; exact ⟨b, hH.grown hg (fun r e => (hr r e).2), e⟩) ?assign ?body ?done ?stop
 case assign =>
  intro l k W K hkN hst hK
  unfold wkV
  have HST := hid hst
  clear hst hkN hI0
  have HK := hid hK
  clear hK
  gi_wp2
  exact HK.out _ _ ((KeepsOthers.alloc _ _).from _) (KC.later ((Below.refl _ _).alloc (Nat.le_refl _) _)) (HST.out.later ((Below.refl _ _).alloc (Nat.le_refl _) _)) ⟨_, Has.new _ _ _, rfl⟩
 case body =>
  rintro l k a' W hl hlo hkN hst ⟨b, hH, rfl⟩
  have hx := (wx_lt k).1
  have hy := (wx_lt k).2
  have hx1 := (wx_lt (k + 1)).1
  have hy1 := (wx_lt (k + 1)).2
  have e1 : (((wx (k + 1)).1 : Nat) : Int) = (((wx k).2 : Nat) : Int) := rfl
  have e2 : (((wx (k + 1)).2 : Nat) : Int) = (2 * (((wx k).1 : Nat) : Int) + 3 * (((wx k).2 : Nat) : Int)) % 5 := by
   show (((2 * (wx k).1 + 3 * (wx k).2) % 5 : Nat) : Int) = _
   omega
  have HN : Hid (Ret Tryz.prog 135 #[.agg #[.int .u64 (((wx k).1 : Nat) : Int), .int .u64 (((wx k).2 : Nat) : Int)]] (.agg #[.int .u64 (((wx (k + 1)).1 : Nat) : Int), .int .u64 (((wx (k + 1)).2 : Nat) : Int)])) := hid ((next_ret _ _ ⟨Int.natCast_nonneg (wx k).1, by omega⟩ ⟨Int.natCast_nonneg (wx k).2, by omega⟩).of_eq rfl (by rw [e1, e2]))
  have HL : Hid (Ret Tryz.prog 131 #[.agg #[.int .u64 (((wx k).1 : Nat) : Int), .int .u64 (((wx k).2 : Nat) : Int)]] (.int .u64 ((wl k : Nat) : Int))) := hid ((lane_ret _ _ ⟨Int.natCast_nonneg (wx k).1, by omega⟩ ⟨Int.natCast_nonneg (wx k).2, by omega⟩).of_eq rfl (by unfold wl; congr 1))
  have HL1 : Hid (Ret Tryz.prog 131 #[.agg #[.int .u64 (((wx (k + 1)).1 : Nat) : Int), .int .u64 (((wx (k + 1)).2 : Nat) : Int)]] (.int .u64 ((wl (k + 1) : Nat) : Int))) := hid ((lane_ret _ _ ⟨Int.natCast_nonneg (wx (k + 1)).1, by omega⟩ ⟨Int.natCast_nonneg (wx (k + 1)).2, by omega⟩).of_eq rfl (by unfold wl; congr 1))
  have ht : (k + 1) * (k + 2) / 2 < 1000 := by
   have : (k + 1) * (k + 2) ≤ 25 * 26 := Nat.mul_le_mul (by omega) (by omega)
   omega
  have HR := hid (rot_ret (A (wl k)) ((k + 1) * (k + 2) / 2) (hA _) (by omega))
  have hS' : ∀ i, i < 25 → turnK A (k + 1) i = if i = wl (k + 1) then rotl (A (wl k)) ((k + 1) * (k + 2) / 2 % 64) else turnK A k i := fun i _ => rfl
  have hl0 := wl_lt k
  have hl1 := wl_lt (k + 1)
  have kb0 : ∀ x : Ext W, x.w.cell? ⟨b, 0, none⟩ = some (.int .u64 (((wx k).1 : Nat) : Int)) := fun x => (hH.later x.below).cell 0 _ rfl
  have kb1 : ∀ x : Ext W, x.w.cell? ⟨b, 1, none⟩ = some (.int .u64 (((wx k).2 : Nat) : Int)) := fun x => (hH.later x.below).cell 1 _ rfl
  have kM : ∀ x : Ext W, x.w.cell? ⟨w.heap.size + 1 + 1, wl (k + 1), none⟩ = some (.int .u64 ((turnK A k (wl (k + 1)) : Nat) : Int)) := fun x => (hst.M.later x.below).cell _ _ (luC_get 25 _ _ hl1)
  have kA : ∀ x : Ext W, x.w.cell? ⟨B, wl k, none⟩ = some (.int .u64 ((A (wl k) : Nat) : Int)) := fun x => (hst.A.later x.below).cell _ _ (luC_get 25 _ _ hl0)
  have kP : ∀ x : Ext W, x.w.cell? ⟨w.heap.size, 0, none⟩ = some (.pointer (some ⟨B, 0, none⟩)) := fun x => (hst.P.later x.below).cell 0 _ rfl
  have kz : ∀ x : Ext W, x.w.frozen? ⟨w.heap.size + 1 + 1, wl (k + 1), none⟩ = false := fun x => (hst.M.later x.below).frozen _
  have HW : Hid (w.heap.size + 1 + 1 < W0.heap.size) := hid (by omega)
  generalize rotl (A (wl k)) ((k + 1) * (k + 2) / 2 % 64) = r at *
  generalize turnK A k (wl (k + 1)) = m0 at *
  generalize A (wl k) = ak at *
  generalize (k + 1) * (k + 2) / 2 = tr at *
  clear e1 e2 hx hy hx1 hy1
  have HST := hid hst
  have HS' := hid hS'
  clear hst hH hS' hkN hI0
  generalize wl (k + 1) = l1 at *
  generalize wl k = l0 at *
  generalize (((wx (k + 1)).1 : Nat) : Int) = nx at *
  generalize (((wx (k + 1)).2 : Nat) : Int) = ny at *
  generalize (((wx k).1 : Nat) : Int) = px at *
  generalize (((wx k).2 : Nat) : Int) = py at *
  have hl0I : (l0 : Int) < 25 := by omega
  have hl1I : (l1 : Int) < 25 := by omega
  have htI : (tr : Int) < 1000 := by omega
  clear hl0 hl1 ht
  gi_wp2_with fail
  refine wpIn_region_mix (C := Grows W) (free_round l) [some true, some true, some true, some true, some true, some true, some true, some true, some true, some true, some true, some true, none] hmx (by kernel_rfl) (by kernel_rfl) (grows_refl W) ?_
  simp only [headOf, tailOf]
  repeat (go_big_quiet_step (first | (with_reducible exact Ret.at HL.out _) | (with_reducible exact Ret.at HN.out _) | (with_reducible exact Ret.at HL1.out _) | (with_reducible exact Ret.at HR.out _)))
  refine wpQuiet_nil ?_
  rintro _ ⟨x, rfl⟩
  have H2 := hid ((HST.out.later x.below).put hBl l1 r HS'.out)
  have HKP := hid (x.keeps W0.heap.size)
  have HKC : Hid (KC W0.heap.size W x.w) := hid (KC.later x.below)
  have kz' := kz x
  have kM' := kM x
  clear kz kM kA kP kb0 kb1
  go_wp2
  rw [calmPost_normal]
  gi_wp2
  exact ⟨HKP.out.trans ((KeepsOthers.setCell _ _ _).from _), HKC.out.trans (KC.set _ HW.out _), H2.out⟩
 case done =>
  rintro D W hD hst hK
  have hDR : D ≠ w.heap.size + 1 := by omega
  have HM := hid (load25 hst.M)
  have HRR := hid hst.R
  have hQ := below_row (B := w.heap.size + 1) hst.Q (by omega) (luC 25 (turnK A 24))
  have hR2 : Has (W.setRow (w.heap.size + 1) (luC 25 (turnK A 24))) (w.heap.size + 1) 112 (luC 25 (turnK A 24)) := hst.R.rowK
  have hK2 : (W.setRow (w.heap.size + 1) (luC 25 (turnK A 24))).heap[D]? = some (.deferred (some [])) := (setRow_other hDR).trans hK
  have HQ := hid hQ
  have HR2 := hid hR2
  have HK2 := hid hK2
  have HIL := hid (infoL (turnK A 24))
  have HIO := hid (one_luC 25 (turnK A 24))
  clear hst hK hQ hR2 hK2 hI0
  gi_wp2_with (first | (refine wpListIn_loadB free_wide rfl _ _ rfl (w.heap.size + 1 + 1) rfl _ HM.out ?_) | (refine wpListIn_storeB free_wide rfl _ _ _ rfl (w.heap.size + 1) (luC 25 (turnK A 24)) rfl rfl _ _ HRR.out HIL.out (by rw [luC_size, luC_size]) HIO.out ?_))
  have R6 : Has ((W.setRow (w.heap.size + 1) (luC 25 (turnK A 24))).putObj D (.deferred none)) (w.heap.size + 1) 112 (luC 25 (turnK A 24)) := (World.putObj_heap_other (fun e => hDR e.symm)).trans HR2.out
  have Q6 : Below w.heap.size w ((W.setRow (w.heap.size + 1) (luC 25 (turnK A 24))).putObj D (.deferred none)) := HQ.out.trans (belowK_b (w := w) (Nat.le_refl _) _ D _ _ (by omega) HK2.out rfl rfl)
  refine ⟨by simp, .inl ⟨_, _, rfl, run_takeDeferred HK2.out, ?_⟩⟩
  exact ⟨_, results_cell_row rfl _ _ (w.heap.size + 1) _ _ (0, 0) _ rfl R6 Tryz.underlying112 rfl (infoL _), rfl, Q6⟩
 case stop =>
  rintro D c k W _ _ h _
  exact h.elim
theorem bits_andNot_i (a b : Nat) (ha : a < 2 ^ 64) (hb : b < 2 ^ 64) : bits .andNot .u64 (a : Int) (b : Int) = ((a &&& (18446744073709551615 ^^^ b) : Nat) : Int) := by
 have hx : a &&& (18446744073709551615 ^^^ b) < 2 ^ 64 := Nat.and_lt_two_pow _ (Nat.xor_lt_two_pow (by decide) hb)
 have h1 : (BitVec.ofInt 64 (a : Int)).toNat = a := by
  rw [BitVec.ofInt_natCast, BitVec.toNat_ofNat]; exact Nat.mod_eq_of_lt ha
 have h2 : (BitVec.ofInt 64 (b : Int)).toNat = b := by
  rw [BitVec.ofInt_natCast, BitVec.toNat_ofNat]; exact Nat.mod_eq_of_lt hb
 show IntKind.u64.wrap ((BitVec.ofInt 64 (a : Int) &&& ~~~BitVec.ofInt 64 (b : Int)).toNat : Int) = _
 rw [BitVec.not_def, BitVec.toNat_and, BitVec.toNat_xor, BitVec.toNat_allOnes, h1, h2, IntKind.wrap_u64]
 rw [show (2 : Nat) ^ 64 - 1 = 18446744073709551615 from rfl]
 omega
theorem plane2_ret (k on : Nat) (hk : k < 25) : Ret Tryz.prog 131 #[.agg #[.int .u64 (((k % 5 + on) % 5 : Nat) : Int), .int .u64 ((k / 5 : Nat) : Int)]] (.int .u64 ((5 * (k / 5) + (k % 5 + on) % 5 : Nat) : Int)) :=
 (lane_ret _ _ ⟨by omega, by omega⟩ ⟨by omega, by omega⟩).of_eq rfl (by congr 1)
def mixK (A : Nat → Nat) (k j : Nat) : Nat := if j < k then mixN A j else 0
theorem mixed_calls (B : Nat) (A : Nat → Nat) (hA : ∀ j, A j < 2 ^ 64) (w : World) (hB : Has w B 112 (luC 25 A)) :
  Calls Tryz.prog 107 #[.pointer (some ⟨B, 0, none⟩)] w fun e w' => e = .returned (.agg (luC 25 (mixN A))) ∧ Below w.heap.size w w' := by
 have hBl := hB.lt
 have hmx : Tryz.prog.follows .mixedOrders = true := by kernel_rfl
 refine (callsIn_wide (n := 8)).1 ?_
 refine callsIn_of_wp_marks Tryz.func107 rfl trivial ?_ rfl
 simp only [Tryz.ntmps107, List.size_toArray, List.length_cons, List.length_nil, Nat.reduceAdd, Nat.reduceSub, Array.replicate_succ, Array.replicate_zero, List.push_toArray, List.append_toArray, List.nil_append, List.cons_append]
 gi_wp2
 have hI0 : TuSt w B A (mixK A 0) (((w.alloc (.cells #[.pointer (some ⟨B, 0, none⟩)] 118)).alloc (.cells #[.int .u64 0, .int .u64 0, .int .u64 0, .int .u64 0, .int .u64 0, .int .u64 0, .int .u64 0, .int .u64 0, .int .u64 0, .int .u64 0, .int .u64 0, .int .u64 0, .int .u64 0, .int .u64 0, .int .u64 0, .int .u64 0, .int .u64 0, .int .u64 0, .int .u64 0, .int .u64 0, .int .u64 0, .int .u64 0, .int .u64 0, .int .u64 0, .int .u64 0] 112)).alloc (.cells #[.int .u64 0, .int .u64 0, .int .u64 0, .int .u64 0, .int .u64 0, .int .u64 0, .int .u64 0, .int .u64 0, .int .u64 0, .int .u64 0, .int .u64 0, .int .u64 0, .int .u64 0, .int .u64 0, .int .u64 0, .int .u64 0, .int .u64 0, .int .u64 0, .int .u64 0, .int .u64 0, .int .u64 0, .int .u64 0, .int .u64 0, .int .u64 0, .int .u64 0] 112)) := by
  have L1 := ((hB.alloc (.cells #[.pointer (some ⟨B, 0, none⟩)] 118)).alloc (.cells #[.int .u64 0, .int .u64 0, .int .u64 0, .int .u64 0, .int .u64 0, .int .u64 0, .int .u64 0, .int .u64 0, .int .u64 0, .int .u64 0, .int .u64 0, .int .u64 0, .int .u64 0, .int .u64 0, .int .u64 0, .int .u64 0, .int .u64 0, .int .u64 0, .int .u64 0, .int .u64 0, .int .u64 0, .int .u64 0, .int .u64 0, .int .u64 0, .int .u64 0] 112)).alloc (.cells #[.int .u64 0, .int .u64 0, .int .u64 0, .int .u64 0, .int .u64 0, .int .u64 0, .int .u64 0, .int .u64 0, .int .u64 0, .int .u64 0, .int .u64 0, .int .u64 0, .int .u64 0, .int .u64 0, .int .u64 0, .int .u64 0, .int .u64 0, .int .u64 0, .int .u64 0, .int .u64 0, .int .u64 0, .int .u64 0, .int .u64 0, .int .u64 0, .int .u64 0] 112)
  have L2 := ((Has.new w 118 #[.pointer (some ⟨B, 0, none⟩)]).alloc (.cells #[.int .u64 0, .int .u64 0, .int .u64 0, .int .u64 0, .int .u64 0, .int .u64 0, .int .u64 0, .int .u64 0, .int .u64 0, .int .u64 0, .int .u64 0, .int .u64 0, .int .u64 0, .int .u64 0, .int .u64 0, .int .u64 0, .int .u64 0, .int .u64 0, .int .u64 0, .int .u64 0, .int .u64 0, .int .u64 0, .int .u64 0, .int .u64 0, .int .u64 0] 112)).alloc (.cells #[.int .u64 0, .int .u64 0, .int .u64 0, .int .u64 0, .int .u64 0, .int .u64 0, .int .u64 0, .int .u64 0, .int .u64 0, .int .u64 0, .int .u64 0, .int .u64 0, .int .u64 0, .int .u64 0, .int .u64 0, .int .u64 0, .int .u64 0, .int .u64 0, .int .u64 0, .int .u64 0, .int .u64 0, .int .u64 0, .int .u64 0, .int .u64 0, .int .u64 0] 112)
  have L3 := (Has.new (w.alloc (.cells #[.pointer (some ⟨B, 0, none⟩)] 118)) 112 #[.int .u64 0, .int .u64 0, .int .u64 0, .int .u64 0, .int .u64 0, .int .u64 0, .int .u64 0, .int .u64 0, .int .u64 0, .int .u64 0, .int .u64 0, .int .u64 0, .int .u64 0, .int .u64 0, .int .u64 0, .int .u64 0, .int .u64 0, .int .u64 0, .int .u64 0, .int .u64 0, .int .u64 0, .int .u64 0, .int .u64 0, .int .u64 0, .int .u64 0]).alloc (.cells #[.int .u64 0, .int .u64 0, .int .u64 0, .int .u64 0, .int .u64 0, .int .u64 0, .int .u64 0, .int .u64 0, .int .u64 0, .int .u64 0, .int .u64 0, .int .u64 0, .int .u64 0, .int .u64 0, .int .u64 0, .int .u64 0, .int .u64 0, .int .u64 0, .int .u64 0, .int .u64 0, .int .u64 0, .int .u64 0, .int .u64 0, .int .u64 0, .int .u64 0] 112)
  have L4 := Has.new ((w.alloc (.cells #[.pointer (some ⟨B, 0, none⟩)] 118)).alloc (.cells #[.int .u64 0, .int .u64 0, .int .u64 0, .int .u64 0, .int .u64 0, .int .u64 0, .int .u64 0, .int .u64 0, .int .u64 0, .int .u64 0, .int .u64 0, .int .u64 0, .int .u64 0, .int .u64 0, .int .u64 0, .int .u64 0, .int .u64 0, .int .u64 0, .int .u64 0, .int .u64 0, .int .u64 0, .int .u64 0, .int .u64 0, .int .u64 0, .int .u64 0] 112)) 112 #[.int .u64 0, .int .u64 0, .int .u64 0, .int .u64 0, .int .u64 0, .int .u64 0, .int .u64 0, .int .u64 0, .int .u64 0, .int .u64 0, .int .u64 0, .int .u64 0, .int .u64 0, .int .u64 0, .int .u64 0, .int .u64 0, .int .u64 0, .int .u64 0, .int .u64 0, .int .u64 0, .int .u64 0, .int .u64 0, .int .u64 0, .int .u64 0, .int .u64 0]
  simp only [World.size_alloc] at L3 L4
  have Q := (((Below.refl w.heap.size w).alloc (Nat.le_refl _) (.cells #[.pointer (some ⟨B, 0, none⟩)] 118)).alloc (by simp) (.cells #[.int .u64 0, .int .u64 0, .int .u64 0, .int .u64 0, .int .u64 0, .int .u64 0, .int .u64 0, .int .u64 0, .int .u64 0, .int .u64 0, .int .u64 0, .int .u64 0, .int .u64 0, .int .u64 0, .int .u64 0, .int .u64 0, .int .u64 0, .int .u64 0, .int .u64 0, .int .u64 0, .int .u64 0, .int .u64 0, .int .u64 0, .int .u64 0, .int .u64 0] 112)).alloc (by simp; omega) (.cells #[.int .u64 0, .int .u64 0, .int .u64 0, .int .u64 0, .int .u64 0, .int .u64 0, .int .u64 0, .int .u64 0, .int .u64 0, .int .u64 0, .int .u64 0, .int .u64 0, .int .u64 0, .int .u64 0, .int .u64 0, .int .u64 0, .int .u64 0, .int .u64 0, .int .u64 0, .int .u64 0, .int .u64 0, .int .u64 0, .int .u64 0, .int .u64 0, .int .u64 0] 112)
  exact ⟨L1, L2, L3, L4, Q⟩
 obtain ⟨W0, hW0⟩ : ∃ W0, (((w.alloc (.cells #[.pointer (some ⟨B, 0, none⟩)] 118)).alloc (.cells #[.int .u64 0, .int .u64 0, .int .u64 0, .int .u64 0, .int .u64 0, .int .u64 0, .int .u64 0, .int .u64 0, .int .u64 0, .int .u64 0, .int .u64 0, .int .u64 0, .int .u64 0, .int .u64 0, .int .u64 0, .int .u64 0, .int .u64 0, .int .u64 0, .int .u64 0, .int .u64 0, .int .u64 0, .int .u64 0, .int .u64 0, .int .u64 0, .int .u64 0] 112)).alloc (.cells #[.int .u64 0, .int .u64 0, .int .u64 0, .int .u64 0, .int .u64 0, .int .u64 0, .int .u64 0, .int .u64 0, .int .u64 0, .int .u64 0, .int .u64 0, .int .u64 0, .int .u64 0, .int .u64 0, .int .u64 0, .int .u64 0, .int .u64 0, .int .u64 0, .int .u64 0, .int .u64 0, .int .u64 0, .int .u64 0, .int .u64 0, .int .u64 0, .int .u64 0] 112)) = W0 := ⟨_, rfl⟩
 have hsz : W0.heap.size = w.heap.size + 3 := by rw [← hW0]; simp
 rw [hW0] at hI0 ⊢
 clear hW0
 refine wpIn_rangeFunc_N rfl (by omega) (gf := 130) (lb := #[]) rfl trivial (enters_of Tryz.func130 (by kernel_rfl) rfl)
  (places_seq _ (by omega) (fun _ _ => True) W0) (fun _ _ => trivial) (fun _ _ _ _ _ _ _ _ => trivial) (fun _ _ => rfl)
  (fun k W => TuSt w B A (mixK A k) W) (fun _ _ _ => False) (TuSt.own w B _ (by omega) A (mixK A)) (fun _ _ _ _ _ hs _ _ => hs) hI0
  (fun k a' V => ∃ b, Has V b 162 #[.int .u64 ((k % 5 : Nat) : Int), .int .u64 ((k / 5 : Nat) : Int)] ∧ a' = { tmps := #[.pointer (some ⟨B, 0, none⟩), .pointer (some ⟨w.heap.size, 0, none⟩), .pointer (some ⟨w.heap.size + 1, 0, none⟩), .pointer (some ⟨w.heap.size + 1 + 1, 0, none⟩), .pointer (some ⟨b, 0, none⟩), .agg #[.int .u64 ((k % 5 : Nat) : Int), .int .u64 ((k / 5 : Nat) : Int)], undef, undef, undef, undef, undef, undef, undef, undef, undef, undef, undef, undef, undef, undef, undef, undef, undef, undef, undef, undef, undef, undef, undef, undef, undef, undef], defers := [] })
  (fun k a' _ X Y row hs hg hr => by obtain ⟨b, hH, e⟩ := hs; exact ⟨b, hH.grown hg (fun r e => (hr r e).2), e⟩) ?assign ?body ?done ?stop
 case assign =>
  intro l k W K hkN hst hK
  rw [plV_eq]
  have HST := hid hst
  clear hst hkN hI0
  have HK := hid hK
  clear hK
  gi_wp2
  exact HK.out _ _ ((KeepsOthers.alloc _ _).from _) trivial (HST.out.later ((Below.refl _ _).alloc (Nat.le_refl _) _)) ⟨_, Has.new _ _ _, rfl⟩
 case body =>
  rintro l k a' W hl hlo hkN hst ⟨b, hH, rfl⟩
  have hi1 : 5 * (k / 5) + (k % 5 + 1) % 5 < 25 := by omega
  have hi2 : 5 * (k / 5) + (k % 5 + 2) % 5 < 25 := by omega
  have hS' : ∀ i, i < 25 → mixK A (k + 1) i = if i = k then mixN A k else mixK A k i := fun i _ => by
   unfold mixK
   by_cases e : i = k
   ·rw [if_pos e, if_pos (by omega), e]
   ·rw [if_neg e]
    by_cases e2 : i < k
    ·rw [if_pos e2, if_pos (by omega)]
    ·rw [if_neg e2, if_neg (by omega)]
  have hA2 := hA (5 * (k / 5) + (k % 5 + 2) % 5)
  have hA1 := hA (5 * (k / 5) + (k % 5 + 1) % 5)
  have hx1 := bits_andNot_i _ _ hA2 hA1
  have hx2 := xor_i (A k) (A (5 * (k / 5) + (k % 5 + 2) % 5) &&& (18446744073709551615 ^^^ A (5 * (k / 5) + (k % 5 + 1) % 5))) (hA k) (Nat.and_lt_two_pow _ (Nat.xor_lt_two_pow (by decide) hA1))
  rw [show A k ^^^ (A (5 * (k / 5) + (k % 5 + 2) % 5) &&& (18446744073709551615 ^^^ A (5 * (k / 5) + (k % 5 + 1) % 5))) = mixN A k from rfl] at hx2
  have HL := hid (plane_ret k hkN)
  have HL2 := hid (plane2_ret k 2 hkN)
  have HL1 := hid (plane2_ret k 1 hkN)
  have HB2 : Hid (Ret Tryz.prog 132 #[.agg #[.int .u64 ((k % 5 : Nat) : Int), .int .u64 ((k / 5 : Nat) : Int)], .int .u64 2] (.agg #[.int .u64 (((k % 5 + 2) % 5 : Nat) : Int), .int .u64 ((k / 5 : Nat) : Int)])) := hid (pbes_ret k 2 (by omega))
  have HB1 : Hid (Ret Tryz.prog 132 #[.agg #[.int .u64 ((k % 5 : Nat) : Int), .int .u64 ((k / 5 : Nat) : Int)], .int .u64 1] (.agg #[.int .u64 (((k % 5 + 1) % 5 : Nat) : Int), .int .u64 ((k / 5 : Nat) : Int)])) := hid (pbes_ret k 1 (by omega))
  have kb0 : ∀ x : Ext W, x.w.cell? ⟨b, 0, none⟩ = some (.int .u64 ((k % 5 : Nat) : Int)) := fun x => (hH.later x.below).cell 0 _ rfl
  have kb1 : ∀ x : Ext W, x.w.cell? ⟨b, 1, none⟩ = some (.int .u64 ((k / 5 : Nat) : Int)) := fun x => (hH.later x.below).cell 1 _ rfl
  have kM : ∀ x : Ext W, x.w.cell? ⟨w.heap.size + 1 + 1, k, none⟩ = some (.int .u64 ((mixK A k k : Nat) : Int)) := fun x => (hst.M.later x.below).cell _ _ (luC_get 25 _ _ hkN)
  have kA0 : ∀ x : Ext W, x.w.cell? ⟨B, k, none⟩ = some (.int .u64 ((A k : Nat) : Int)) := fun x => (hst.A.later x.below).cell _ _ (luC_get 25 _ _ hkN)
  have kA1 : ∀ x : Ext W, x.w.cell? ⟨B, 5 * (k / 5) + (k % 5 + 1) % 5, none⟩ = some (.int .u64 ((A (5 * (k / 5) + (k % 5 + 1) % 5) : Nat) : Int)) := fun x => (hst.A.later x.below).cell _ _ (luC_get 25 _ _ hi1)
  have kA2 : ∀ x : Ext W, x.w.cell? ⟨B, 5 * (k / 5) + (k % 5 + 2) % 5, none⟩ = some (.int .u64 ((A (5 * (k / 5) + (k % 5 + 2) % 5) : Nat) : Int)) := fun x => (hst.A.later x.below).cell _ _ (luC_get 25 _ _ hi2)
  have kP : ∀ x : Ext W, x.w.cell? ⟨w.heap.size, 0, none⟩ = some (.pointer (some ⟨B, 0, none⟩)) := fun x => (hst.P.later x.below).cell 0 _ rfl
  have kz : ∀ x : Ext W, x.w.frozen? ⟨w.heap.size + 1 + 1, k, none⟩ = false := fun x => (hst.M.later x.below).frozen _
  generalize mixN A k = r at *
  generalize mixK A k k = m0 at *
  generalize A (5 * (k / 5) + (k % 5 + 2) % 5) &&& (18446744073709551615 ^^^ A (5 * (k / 5) + (k % 5 + 1) % 5)) = r1 at *
  generalize A (5 * (k / 5) + (k % 5 + 2) % 5) = a2 at *
  generalize A (5 * (k / 5) + (k % 5 + 1) % 5) = a1 at *
  generalize A k = ak at *
  generalize 5 * (k / 5) + (k % 5 + 2) % 5 = i2 at *
  generalize 5 * (k / 5) + (k % 5 + 1) % 5 = i1 at *
  generalize (((k % 5 + 2) % 5 : Nat) : Int) = x2 at *
  generalize (((k % 5 + 1) % 5 : Nat) : Int) = x1 at *
  generalize ((k % 5 : Nat) : Int) = x0 at *
  generalize ((k / 5 : Nat) : Int) = y0 at *
  have hk5I : (k : Int) < 25 := by omega
  have hi1I : (i1 : Int) < 25 := by omega
  have hi2I : (i2 : Int) < 25 := by omega
  have HST := hid hst
  have HS' := hid hS'
  clear hst hH hS' hkN hI0 hi1 hi2 hA1 hA2
  gi_wp2_with fail
  refine wpIn_region_mix (C := Grows W) (free_round l) [some true, some true, some true, some true, some true, some true, some true, some true, some true, some true, some true, some true, some true, some true, some true, some true, some true, some true, some true, some true, some true, some true, some true, some true, some true, none] hmx (by kernel_rfl) (by kernel_rfl) (grows_refl W) ?_
  simp only [headOf, tailOf]
  repeat (go_big_quiet_step (first | (with_reducible exact Ret.at HL.out _) | (with_reducible exact Ret.at HL1.out _) | (with_reducible exact Ret.at HL2.out _) | (with_reducible exact Ret.at HB1.out _) | (with_reducible exact Ret.at HB2.out _)))
  refine wpQuiet_nil ?_
  rintro _ ⟨x, rfl⟩
  have H2 := hid ((HST.out.later x.below).put hBl k r HS'.out)
  have HKP := hid (x.keeps W0.heap.size)
  have kz' := kz x
  have kM' := kM x
  clear kz kM kA0 kA1 kA2 kP kb0 kb1
  go_wp2
  rw [calmPost_normal]
  gi_wp2
  exact ⟨HKP.out.trans ((KeepsOthers.setCell _ _ _).from _), trivial, H2.out⟩
 case done =>
  rintro D W hD hst0 hK
  have hst : TuSt w B A (mixN A) W := ⟨hst0.A, hst0.P, hst0.R, by rw [luC_congr 25 (mixN A) (mixK A 25) (fun j hj => by unfold mixK; rw [if_pos hj])]; exact hst0.M, hst0.Q⟩
  clear hst0
  have hDR : D ≠ w.heap.size + 1 := by omega
  have HM := hid (load25 hst.M)
  have HRR := hid hst.R
  have HQ := hid (below_row (B := w.heap.size + 1) hst.Q (by omega) (luC 25 (mixN A)))
  have HR2 : Hid (Has (W.setRow (w.heap.size + 1) (luC 25 (mixN A))) (w.heap.size + 1) 112 (luC 25 (mixN A))) := hid hst.R.rowK
  have HK2 : Hid ((W.setRow (w.heap.size + 1) (luC 25 (mixN A))).heap[D]? = some (.deferred (some []))) := hid ((setRow_other hDR).trans hK)
  have HIL := hid (infoL (mixN A))
  have HIO := hid (one_luC 25 (mixN A))
  clear hst hK hI0
  gi_wp2_with (first | (refine wpListIn_loadB free_wide rfl _ _ rfl (w.heap.size + 1 + 1) rfl _ HM.out ?_) | (refine wpListIn_storeB free_wide rfl _ _ _ rfl (w.heap.size + 1) (luC 25 (mixN A)) rfl rfl _ _ HRR.out HIL.out (by rw [luC_size, luC_size]) HIO.out ?_))
  have R6 : Has ((W.setRow (w.heap.size + 1) (luC 25 (mixN A))).putObj D (.deferred none)) (w.heap.size + 1) 112 (luC 25 (mixN A)) := (World.putObj_heap_other (fun e => hDR e.symm)).trans HR2.out
  have Q6 : Below w.heap.size w ((W.setRow (w.heap.size + 1) (luC 25 (mixN A))).putObj D (.deferred none)) := HQ.out.trans (belowK_b (w := w) (Nat.le_refl _) _ D _ _ (by omega) HK2.out rfl rfl)
  refine ⟨by simp, .inl ⟨_, _, rfl, run_takeDeferred HK2.out, ?_⟩⟩
  exact ⟨_, results_cell_row rfl _ _ (w.heap.size + 1) _ _ (0, 0) _ rfl R6 Tryz.underlying112 rfl (infoL _), rfl, Q6⟩
 case stop =>
  rintro D c k W _ _ h _
  exact h.elim
end Go.Proofs.YtkicmbdjihjgfaaGreatDoor
