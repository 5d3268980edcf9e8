/- Part. -/
import Derived.Test.YtkicmbdjihjgfaaGreatDoorH04
import Derived.Laws.Bits64
import Derived.Laws.Bits64b
set_option maxRecDepth 100000
set_option maxHeartbeats 16000000
namespace Go.Proofs.YtkicmbdjihjgfaaGreatDoor
section
open Go Go.RowKit
def SeqD (F : Fence) (n : Nat) (P : Program) (g : Nat) (lb : Array Value) (E : Nat → Array Value → World → World → Prop) (Kp Sj : World → World → Prop) (Fin : World → Prop) (N : Nat) (w : World) : Prop :=
 ∀ (l : Nat) (J Jx : Nat → World → Prop) (W : World), Below w.heap.size w W → (∀ s A X, J s A → Sj A X → J s X) → (∀ s A X, Jx s A → Sj A X → Jx s X) →
  (∀ k args A W1, k < N → J k A → Sj A W1 → E k args A W1 → YieldAt F (n - 1) P l args W1 fun e W' =>
   (e = .returned (.bool true) ∧ J (k + 1) W' ∧ Kp W1 W') ∨ (e = .returned (.bool false) ∧ Jx k W')) →
  J 0 W →
  CallsIn F n P g (#[.func (.yield l) #[] #[]] ++ lb) W fun e W' => (∃ v, e = .returned v) ∧ ((J N W' ∧ Fin W') ∨ ∃ k, k < N ∧ Jx k W')
variable {F : Fence} {n : Nat} {P : Program}
theorem wpIn_rangeFunc_D {g : Operand} {ps : Array Tmp} {assign body : Code} {Q : Exit → Act → World → Prop} {a : Act} {w : World}
  (hro : F.round = none) (h1 : 1 ≤ n) {gf : Nat} {lb : Array Value} (hg : a.eval g = .func (.func gf) #[] lb) (hFg : F.fn gf) (eg : ∀ args w, (callFunc gf args).run P w = .ok (.enter gf args) w)
  {E : Nat → Array Value → World → World → Prop} {Kp Sj : World → World → Prop} {Fin : World → Prop} {N : Nat} (hseq : SeqD F (n - 1) P gf lb E Kp Sj Fin N w) (hFin : OwnFrom w.heap.size (fun (_ : Unit) W => Fin W)) (hSj : ∀ A X, Sj A X → ∀ (b : Nat) (o : Obj), A.heap[b]? = some o → o.isCells = false → X.heap[b]? = some o)
  (hKt : ∀ {A B C : World}, Kp A B → Kp B C → Kp A C) (hKb : ∀ (W : World) (l : Nat) (o o' : Obj), w.heap.size ≤ l → W.heap[l]? = some o → o.isCells = false → o.isWalk = false → Kp W (W.putObj l o')) (hps : ∀ k args A W, k < N → E k args A W → args.size = ps.size)
  (I : Nat → World → Prop) (Ix : Code → Nat → World → Prop) (hI : OwnFrom w.heap.size I) (hIx : ∀ c, OwnFrom w.heap.size (Ix c)) (hIb : ∀ s A X, I s A → Sj A X → I s X) (hIxb : ∀ c s A X, Ix c s A → Sj A X → Ix c s X) (h0 : I 0 w) (Ax : Nat → Act → World → Prop) (hAx : ∀ k a', OwnFrom w.heap.size (fun (_ : Unit) W => Ax k a' W))
  (hassign : ∀ (l k : Nat) (args : Array Value) (A W : World) (K : Act → World → Prop), w.heap.size ≤ l → k < N → I k A → Sj A W → I k W → E k args A W → (∀ a' W', KeepsFrom w.heap.size W W' → Kp W W' → I k W' → Ax k a' W' → K a' W') →
   assign.wpIn (F.inRound l) (n - 1 - 1) P (Exit.then K (fun _ _ _ => False)) { tmps := (ps.zip args).foldl (fun t (p, v) => t.setIfInBounds p v) a.tmps, defers := [] } W)
  (hbody : ∀ (l k : Nat) (a' : Act) (W : World), w.heap.size ≤ l → (∃ r, W.heap[l]? = some (.loop r)) → k < N → I k W → Ax k a' W → body.wpIn (F.inRound l) (n - 1 - 1) P (roundN w.heap.size Kp I Ix k W) a' W)
  (hdone : ∀ (D : Nat) (W : World), w.heap.size ≤ D → I N W → Fin W → W.heap[D]? = some (.deferred (some [])) → Q .normal { a with defers := { target := .collected D, args := #[] } :: a.defers } W)
  (hstop : ∀ (D : Nat) (c : Code) (k : Nat) (W : World), w.heap.size ≤ D → k < N → Ix c k W → W.heap[D]? = some (.deferred (some [])) → c.wpIn F n P Q { a with defers := { target := .collected D, args := #[] } :: a.defers } W) :
  (Code.rangeFunc g ps assign body).wpIn F n P Q a w := by
 refine wpIn_rangeFunc ?_
 intro fn hfn
 rw [hro]
 obtain ⟨rec, hrec⟩ : ∃ rec : LoopState → Option Code → Loop, rec = fun st pe => { state := st, pending := pe, fn, tmps := a.tmps, params := ps, assign, body, defers := w.heap.size } := ⟨_, rfl⟩
 obtain ⟨W1, hW1⟩ : ∃ W1, (w.alloc (.deferred (some []))).alloc (.loop (rec .ready none)) = W1 := ⟨_, rfl⟩
 have hL1 : W1.heap[w.heap.size + 1]? = some (.loop (rec .ready none)) := by
  rw [← hW1]; have := World.alloc_heap_new (w.alloc (.deferred (some []))) (.loop (rec .ready none)); rwa [World.size_alloc] at this
 have hK1 : W1.heap[w.heap.size]? = some (.deferred (some [])) := by
  rw [← hW1]; exact (Below.heap_alloc _ _ _ (by simp)).trans (World.alloc_heap_new w _)
 have hI1 : I 0 W1 := by rw [← hW1]; exact hI.alloc _ (hI.alloc _ h0)
 have hb1 : Below w.heap.size w W1 := by
  rw [← hW1]; exact ((Below.refl _ w).alloc (Nat.le_refl _) _).alloc (by simp) _
 refine ⟨w.heap.size + 1, [{ target := .collected w.heap.size, args := #[] }], W1, { target := .fn (.func gf) lb, args := #[.func (.yield (w.heap.size + 1)) #[] #[]] }, W1, gf,
  #[.func (.yield (w.heap.size + 1)) #[] #[]] ++ lb, W1, ?_, ?_, ?_, ?_, fun _ => h1, ?_⟩
 ·rw [← hW1, hrec]; exact run_enterLoop_outer _ _ _ _ _
 ·simp only [resolve, hg]
  simp [go_sem]
 ·intro f' hf'; simp [Target.leads] at hf'; subst hf'; exact hFg
 ·simp [invoke, go_sem, eg]
 ·skip
  refine (hseq (w.heap.size + 1)
   (fun k W => I k W ∧ W.heap[w.heap.size + 1]? = some (.loop (rec .ready none)) ∧ W.heap[w.heap.size]? = some (.deferred (some [])))
   (fun k W => ∃ c, Ix c k W ∧ W.heap[w.heap.size + 1]? = some (.loop (rec .done (some c))) ∧ W.heap[w.heap.size]? = some (.deferred (some [])))
   W1 hb1
   (fun s A X hs hb => ⟨hIb s A X hs.1 hb, hSj A X hb _ _ hs.2.1 rfl, hSj A X hb _ _ hs.2.2 rfl⟩)
   (fun s A X hs hb => by
    obtain ⟨c, hc, hl, hk⟩ := hs
    exact ⟨c, hIxb c s A X hc hb, hSj A X hb _ _ hl rfl, hSj A X hb _ _ hk rfl⟩)
   ?_ ⟨hI1, hL1, hK1⟩).mono ?_
  ·rintro k args A W hkN ⟨hi0, hl0, hk0⟩ hsj hE
   have hi := hIb _ _ _ hi0 hsj
   have hl := hSj A W hsj _ _ hl0 rfl
   have hk := hSj A W hsj _ _ hk0 rfl
   have hlt : w.heap.size + 1 < W.heap.size := (Array.getElem?_eq_some_iff.1 hl).1
   have hy := run_yield (P := P) (args := args) hl (by rw [hrec]; exact hps k args A W hkN hE)
   rw [hrec] at hy
   refine ⟨fn, _, assign, body, hy, roundIn_of_wpIn hfn (hassign _ k args A W _ (by omega) hkN hi0 hsj hi hE ?_)⟩
   clear hy
   intro a' Wa hkfa hkpa hia hax
   replace hl := hkfa.same _ _ (by omega) hl rfl
   replace hk := hkfa.same _ _ (Nat.le_refl _) hk rfl
   replace hlt : w.heap.size + 1 < Wa.heap.size := (Array.getElem?_eq_some_iff.1 hl).1
   refine ⟨_, run_beginRound hl (by rw [hrec]), ?_⟩
   have hl2 : (Wa.putObj (w.heap.size + 1) (.loop { rec .ready none with state := .busy })).heap[w.heap.size + 1]? = some (.loop { rec .ready none with state := .busy }) := World.putObj_heap_same hlt
   have hk2 : (Wa.putObj (w.heap.size + 1) (.loop { rec .ready none with state := .busy })).heap[w.heap.size]? = some (.deferred (some [])) := (World.putObj_heap_other (by omega)).trans hk
   have hw2 : Kp Wa (Wa.putObj (w.heap.size + 1) (.loop { rec .ready none with state := .busy })) := hKb _ _ _ _ (by omega) hl rfl rfl
   refine wpIn_mono (hbody _ k a' _ (by omega) ⟨_, hl2⟩ hkN (hI.putObj _ hia (by omega) hl rfl) ((hAx k a').putObj (s := ()) _ hax (by omega) hl rfl)) ?_
   have fin : ∀ (jump : Option Code) (W3 : World), KeepsFrom w.heap.size (Wa.putObj (w.heap.size + 1) (.loop { rec .ready none with state := .busy })) W3 →
     (Instr.endRound (w.heap.size + 1) jump).run P W3 = .ok (.bool jump.isNone) (W3.putObj (w.heap.size + 1) (.loop (rec (if jump.isNone then .ready else .done) jump))) ∧
     W3.heap[w.heap.size + 1]? = some (.loop { rec .ready none with state := .busy }) ∧
     (W3.putObj (w.heap.size + 1) (.loop (rec (if jump.isNone then .ready else .done) jump))).heap[w.heap.size + 1]? = some (.loop (rec (if jump.isNone then .ready else .done) jump)) ∧
     (W3.putObj (w.heap.size + 1) (.loop (rec (if jump.isNone then .ready else .done) jump))).heap[w.heap.size]? = some (.deferred (some [])) := fun jump W3 hk3 => by
    have hl3 := hk3.same _ _ (by omega) hl2 rfl
    have := run_endRound (P := P) jump hl3
    rw [hrec] at this ⊢
    exact ⟨this, by rw [hrec] at hl3; exact hl3, World.putObj_heap_same (Array.getElem?_eq_some_iff.1 hl3).1, (World.putObj_heap_other (by omega)).trans (hk3.same _ _ (Nat.le_refl _) hk2 rfl)⟩
   rintro e a3 W3 hp
   cases e with
   | normal =>
    obtain ⟨hk3, hkp3, hi3⟩ := hp
    obtain ⟨hr, hl3, hl4, hk4⟩ := fin none W3 hk3
    exact ⟨_, _, hr, .inl ⟨rfl, ⟨hI.putObj _ hi3 (by omega) hl3 rfl, hl4, hk4⟩, hKt hkpa (hKt (hKt hw2 hkp3) (hKb _ _ _ _ (by omega) hl3 rfl rfl))⟩⟩
   | ret =>
    obtain ⟨hk3, hi3⟩ := hp
    obtain ⟨hr, hl3, hl4, hk4⟩ := fin (some .ret) W3 hk3
    exact ⟨_, _, hr, .inr ⟨rfl, .ret, (hIx _).putObj _ hi3 (by omega) hl3 rfl, hl4, hk4⟩⟩
   | exit id =>
    obtain ⟨hk3, hi3⟩ := hp
    obtain ⟨hr, hl3, hl4, hk4⟩ := fin (some (.exit id)) W3 hk3
    exact ⟨_, _, hr, .inr ⟨rfl, .exit id, (hIx _).putObj _ hi3 (by omega) hl3 rfl, hl4, hk4⟩⟩
   | goto t =>
    obtain ⟨hk3, hi3⟩ := hp
    obtain ⟨hr, hl3, hl4, hk4⟩ := fin (some (.goto t)) W3 hk3
    exact ⟨_, _, hr, .inr ⟨rfl, .goto t, (hIx _).putObj _ hi3 (by omega) hl3 rfl, hl4, hk4⟩⟩
   | panic ch => exact hp.elim
   | outgrown => exact hp.elim
  ·rintro e W2 ⟨⟨v, rfl⟩, (⟨⟨hi, hl, hk⟩, hf⟩ | ⟨k, hkN, c, hi, hl, hk⟩)⟩
   ·exact ⟨none, _, by have := run_endLoop (P := P) hl (by rw [hrec]; simp); rw [hrec] at this; exact this, hdone _ _ (Nat.le_refl _) (hI.putObj _ hi (by omega) hl rfl) (hFin.putObj (s := ()) _ hf (by omega) hl rfl) ((World.putObj_heap_other (by omega)).trans hk)⟩
   ·exact ⟨some c, _, by have := run_endLoop (P := P) hl (by rw [hrec]; simp); rw [hrec] at this; exact this, hstop _ c k _ (Nat.le_refl _) hkN ((hIx c).putObj _ hi (by omega) hl rfl) ((World.putObj_heap_other (by omega)).trans hk)⟩
end
section
def rotl (x s : Nat) : Nat := x * 2 ^ s % 2 ^ 64 ||| x / 2 ^ (64 - s)
theorem rotl_lt (x s : Nat) (hx : x < 2 ^ 64) : rotl x s < 2 ^ 64 :=
 Nat.or_lt_two_pow (Nat.mod_lt _ (by decide)) (Nat.lt_of_le_of_lt (Nat.div_le_self _ _) hx)
def colK (A : Nat → Nat) : Nat → Nat → Nat
 | 0, _ => 0
 | k + 1, j => if j = k % 5 then colK A k j ^^^ A k else colK A k j
theorem colK_lt (A : Nat → Nat) (hA : ∀ j, A j < 2 ^ 64) : ∀ k j, colK A k j < 2 ^ 64
 | 0, _ => by simp [colK]
 | k + 1, j => by
  unfold colK
  split
  ·exact Nat.xor_lt_two_pow (colK_lt A hA k j) (hA k)
  ·exact colK_lt A hA k j
def thetaN (A : Nat → Nat) (j : Nat) : Nat := A j ^^^ (colK A 25 ((j % 5 + 4) % 5) ^^^ rotl (colK A 25 ((j % 5 + 1) % 5)) 1)
theorem thetaN_lt (A : Nat → Nat) (hA : ∀ j, A j < 2 ^ 64) (j : Nat) : thetaN A j < 2 ^ 64 :=
 Nat.xor_lt_two_pow (hA j) (Nat.xor_lt_two_pow (colK_lt A hA _ _) (rotl_lt _ _ (colK_lt A hA _ _)))
def wx : Nat → Nat × Nat
 | 0 => (1, 0)
 | t + 1 => ((wx t).2, (2 * (wx t).1 + 3 * (wx t).2) % 5)
theorem wx_lt : ∀ t, (wx t).1 < 5 ∧ (wx t).2 < 5
 | 0 => by decide
 | t + 1 => ⟨(wx_lt t).2, Nat.mod_lt _ (by omega)⟩
def wl (t : Nat) : Nat := 5 * (wx t).2 + (wx t).1
def turnK (A : Nat → Nat) : Nat → Nat → Nat
 | 0, j => if j = 0 then A 0 else 0
 | k + 1, j => if j = wl (k + 1) then rotl (A (wl k)) ((k + 1) * (k + 2) / 2 % 64) else turnK A k j
theorem turnK_lt (A : Nat → Nat) (hA : ∀ j, A j < 2 ^ 64) : ∀ k j, turnK A k j < 2 ^ 64
 | 0, j => by unfold turnK; split; exact hA 0; decide
 | k + 1, j => by unfold turnK; split; exact rotl_lt _ _ (hA _); exact turnK_lt A hA k j
def mixN (A : Nat → Nat) (j : Nat) : Nat := A j ^^^ (A (5 * (j / 5) + (j % 5 + 2) % 5) &&& (18446744073709551615 ^^^ A (5 * (j / 5) + (j % 5 + 1) % 5)))
theorem mixN_lt (A : Nat → Nat) (hA : ∀ j, A j < 2 ^ 64) (j : Nat) : mixN A j < 2 ^ 64 :=
 Nat.xor_lt_two_pow (hA j) (Nat.and_lt_two_pow _ (Nat.xor_lt_two_pow (by decide) (hA _)))
def rcL : List Nat := [0x0000000000000001, 0x0000000000008082, 0x800000000000808a, 0x8000000080008000,
 0x000000000000808b, 0x0000000080000001, 0x8000000080008081, 0x8000000000008009,
 0x000000000000008a, 0x0000000000000088, 0x0000000080008009, 0x000000008000000a,
 0x000000008000808b, 0x800000000000008b, 0x8000000000008089, 0x8000000000008003,
 0x8000000000008002, 0x8000000000000080, 0x000000000000800a, 0x800000008000000a,
 0x8000000080008081, 0x8000000000008080, 0x0000000080000001, 0x8000000080008008]
def rndN (A : Nat → Nat) (c : Nat) (j : Nat) : Nat := if j = 0 then mixN (turnK (thetaN A) 24) 0 ^^^ c else mixN (turnK (thetaN A) 24) j
def permK (A : Nat → Nat) (k : Nat) : Nat → Nat := (rcL.take k).foldl rndN A
def permN (A : Nat → Nat) : Nat → Nat := permK A 24
def l25 (A : Nat → Nat) : List Nat := (List.range 25).map A
def rot1 (x : Nat) (s : Nat) : Nat := Nat.lor (Nat.mod (Nat.mul x (Nat.pow 2 s)) (Nat.pow 2 64)) (Nat.div x (Nat.pow 2 (Nat.sub 64 s)))
theorem l25_eq (A : Nat → Nat) : l25 A = [A 0, A 1, A 2, A 3, A 4, A 5, A 6, A 7, A 8, A 9, A 10, A 11, A 12, A 13, A 14, A 15, A 16, A 17, A 18, A 19, A 20, A 21, A 22, A 23, A 24] := rfl
theorem col_0 (A : Nat → Nat) : colK A 25 0 = A 0 ^^^ A 5 ^^^ A 10 ^^^ A 15 ^^^ A 20 := by simp [colK]
theorem col_1 (A : Nat → Nat) : colK A 25 1 = A 1 ^^^ A 6 ^^^ A 11 ^^^ A 16 ^^^ A 21 := by simp [colK]
theorem col_2 (A : Nat → Nat) : colK A 25 2 = A 2 ^^^ A 7 ^^^ A 12 ^^^ A 17 ^^^ A 22 := by simp [colK]
theorem col_3 (A : Nat → Nat) : colK A 25 3 = A 3 ^^^ A 8 ^^^ A 13 ^^^ A 18 ^^^ A 23 := by simp [colK]
theorem col_4 (A : Nat → Nat) : colK A 25 4 = A 4 ^^^ A 9 ^^^ A 14 ^^^ A 19 ^^^ A 24 := by simp [colK]
theorem turn_0 (A : Nat → Nat) : turnK A 24 0 = A 0 := by simp [turnK, wl, wx]
theorem turn_1 (A : Nat → Nat) : turnK A 24 1 = rotl (A 6) 44 := by simp [turnK, wl, wx]
theorem turn_2 (A : Nat → Nat) : turnK A 24 2 = rotl (A 12) 43 := by simp [turnK, wl, wx]
theorem turn_3 (A : Nat → Nat) : turnK A 24 3 = rotl (A 18) 21 := by simp [turnK, wl, wx]
theorem turn_4 (A : Nat → Nat) : turnK A 24 4 = rotl (A 24) 14 := by simp [turnK, wl, wx]
theorem turn_5 (A : Nat → Nat) : turnK A 24 5 = rotl (A 3) 28 := by simp [turnK, wl, wx]
theorem turn_6 (A : Nat → Nat) : turnK A 24 6 = rotl (A 9) 20 := by simp [turnK, wl, wx]
theorem turn_7 (A : Nat → Nat) : turnK A 24 7 = rotl (A 10) 3 := by simp [turnK, wl, wx]
theorem turn_8 (A : Nat → Nat) : turnK A 24 8 = rotl (A 16) 45 := by simp [turnK, wl, wx]
theorem turn_9 (A : Nat → Nat) : turnK A 24 9 = rotl (A 22) 61 := by simp [turnK, wl, wx]
theorem turn_10 (A : Nat → Nat) : turnK A 24 10 = rotl (A 1) 1 := by simp [turnK, wl, wx]
theorem turn_11 (A : Nat → Nat) : turnK A 24 11 = rotl (A 7) 6 := by simp [turnK, wl, wx]
theorem turn_12 (A : Nat → Nat) : turnK A 24 12 = rotl (A 13) 25 := by simp [turnK, wl, wx]
theorem turn_13 (A : Nat → Nat) : turnK A 24 13 = rotl (A 19) 8 := by simp [turnK, wl, wx]
theorem turn_14 (A : Nat → Nat) : turnK A 24 14 = rotl (A 20) 18 := by simp [turnK, wl, wx]
theorem turn_15 (A : Nat → Nat) : turnK A 24 15 = rotl (A 4) 27 := by simp [turnK, wl, wx]
theorem turn_16 (A : Nat → Nat) : turnK A 24 16 = rotl (A 5) 36 := by simp [turnK, wl, wx]
theorem turn_17 (A : Nat → Nat) : turnK A 24 17 = rotl (A 11) 10 := by simp [turnK, wl, wx]
theorem turn_18 (A : Nat → Nat) : turnK A 24 18 = rotl (A 17) 15 := by simp [turnK, wl, wx]
theorem turn_19 (A : Nat → Nat) : turnK A 24 19 = rotl (A 23) 56 := by simp [turnK, wl, wx]
theorem turn_20 (A : Nat → Nat) : turnK A 24 20 = rotl (A 2) 62 := by simp [turnK, wl, wx]
theorem turn_21 (A : Nat → Nat) : turnK A 24 21 = rotl (A 8) 55 := by simp [turnK, wl, wx]
theorem turn_22 (A : Nat → Nat) : turnK A 24 22 = rotl (A 14) 39 := by simp [turnK, wl, wx]
theorem turn_23 (A : Nat → Nat) : turnK A 24 23 = rotl (A 15) 41 := by simp [turnK, wl, wx]
theorem turn_24 (A : Nat → Nat) : turnK A 24 24 = rotl (A 21) 2 := by simp [turnK, wl, wx]
def thL (l : List Nat) : List Nat :=
 match l with
 | [a0,a1,a2,a3,a4,a5,a6,a7,a8,a9,a10,a11,a12,a13,a14,a15,a16,a17,a18,a19,a20,a21,a22,a23,a24] =>
  let c0 := Nat.xor (Nat.xor (Nat.xor (Nat.xor a0 a5) a10) a15) a20
  let c1 := Nat.xor (Nat.xor (Nat.xor (Nat.xor a1 a6) a11) a16) a21
  let c2 := Nat.xor (Nat.xor (Nat.xor (Nat.xor a2 a7) a12) a17) a22
  let c3 := Nat.xor (Nat.xor (Nat.xor (Nat.xor a3 a8) a13) a18) a23
  let c4 := Nat.xor (Nat.xor (Nat.xor (Nat.xor a4 a9) a14) a19) a24
  let d0 := Nat.xor c4 (rot1 c1 1)
  let d1 := Nat.xor c0 (rot1 c2 1)
  let d2 := Nat.xor c1 (rot1 c3 1)
  let d3 := Nat.xor c2 (rot1 c4 1)
  let d4 := Nat.xor c3 (rot1 c0 1)
  [Nat.xor a0 d0, Nat.xor a1 d1, Nat.xor a2 d2, Nat.xor a3 d3, Nat.xor a4 d4, Nat.xor a5 d0, Nat.xor a6 d1, Nat.xor a7 d2, Nat.xor a8 d3, Nat.xor a9 d4, Nat.xor a10 d0, Nat.xor a11 d1, Nat.xor a12 d2, Nat.xor a13 d3, Nat.xor a14 d4, Nat.xor a15 d0, Nat.xor a16 d1, Nat.xor a17 d2, Nat.xor a18 d3, Nat.xor a19 d4, Nat.xor a20 d0, Nat.xor a21 d1, Nat.xor a22 d2, Nat.xor a23 d3, Nat.xor a24 d4]
 | _ => []
def tuL (l : List Nat) : List Nat :=
 match l with
 | [a0,a1,a2,a3,a4,a5,a6,a7,a8,a9,a10,a11,a12,a13,a14,a15,a16,a17,a18,a19,a20,a21,a22,a23,a24] =>
  [a0, rot1 a6 44, rot1 a12 43, rot1 a18 21, rot1 a24 14, rot1 a3 28, rot1 a9 20, rot1 a10 3, rot1 a16 45, rot1 a22 61, rot1 a1 1, rot1 a7 6, rot1 a13 25, rot1 a19 8, rot1 a20 18, rot1 a4 27, rot1 a5 36, rot1 a11 10, rot1 a17 15, rot1 a23 56, rot1 a2 62, rot1 a8 55, rot1 a14 39, rot1 a15 41, rot1 a21 2]
 | _ => []
def miL (l : List Nat) (c : Nat) : List Nat :=
 match l with
 | [a0,a1,a2,a3,a4,a5,a6,a7,a8,a9,a10,a11,a12,a13,a14,a15,a16,a17,a18,a19,a20,a21,a22,a23,a24] =>
  [Nat.xor (Nat.xor a0 (Nat.land a2 (Nat.xor 18446744073709551615 a1))) c, Nat.xor a1 (Nat.land a3 (Nat.xor 18446744073709551615 a2)), Nat.xor a2 (Nat.land a4 (Nat.xor 18446744073709551615 a3)), Nat.xor a3 (Nat.land a0 (Nat.xor 18446744073709551615 a4)), Nat.xor a4 (Nat.land a1 (Nat.xor 18446744073709551615 a0)), Nat.xor a5 (Nat.land a7 (Nat.xor 18446744073709551615 a6)), Nat.xor a6 (Nat.land a8 (Nat.xor 18446744073709551615 a7)), Nat.xor a7 (Nat.land a9 (Nat.xor 18446744073709551615 a8)), Nat.xor a8 (Nat.land a5 (Nat.xor 18446744073709551615 a9)), Nat.xor a9 (Nat.land a6 (Nat.xor 18446744073709551615 a5)), Nat.xor a10 (Nat.land a12 (Nat.xor 18446744073709551615 a11)), Nat.xor a11 (Nat.land a13 (Nat.xor 18446744073709551615 a12)), Nat.xor a12 (Nat.land a14 (Nat.xor 18446744073709551615 a13)), Nat.xor a13 (Nat.land a10 (Nat.xor 18446744073709551615 a14)), Nat.xor a14 (Nat.land a11 (Nat.xor 18446744073709551615 a10)), Nat.xor a15 (Nat.land a17 (Nat.xor 18446744073709551615 a16)), Nat.xor a16 (Nat.land a18 (Nat.xor 18446744073709551615 a17)), Nat.xor a17 (Nat.land a19 (Nat.xor 18446744073709551615 a18)), Nat.xor a18 (Nat.land a15 (Nat.xor 18446744073709551615 a19)), Nat.xor a19 (Nat.land a16 (Nat.xor 18446744073709551615 a15)), Nat.xor a20 (Nat.land a22 (Nat.xor 18446744073709551615 a21)), Nat.xor a21 (Nat.land a23 (Nat.xor 18446744073709551615 a22)), Nat.xor a22 (Nat.land a24 (Nat.xor 18446744073709551615 a23)), Nat.xor a23 (Nat.land a20 (Nat.xor 18446744073709551615 a24)), Nat.xor a24 (Nat.land a21 (Nat.xor 18446744073709551615 a20))]
 | _ => []
theorem rot1_eq (x s : Nat) : rot1 x s = rotl x s := rfl
theorem thL_eq (A : Nat → Nat) : thL (l25 A) = l25 (thetaN A) := by
 rw [l25_eq, l25_eq]
 simp only [thL, thetaN, rot1_eq, col_0, col_1, col_2, col_3, col_4, Nat.reduceMod, Nat.reduceAdd]
 rfl
theorem tuL_eq (A : Nat → Nat) : tuL (l25 A) = l25 (turnK A 24) := by
 rw [l25_eq, l25_eq]
 simp only [tuL, rot1_eq, turn_0, turn_1, turn_2, turn_3, turn_4, turn_5, turn_6, turn_7, turn_8, turn_9, turn_10, turn_11, turn_12, turn_13, turn_14, turn_15, turn_16, turn_17, turn_18, turn_19, turn_20, turn_21, turn_22, turn_23, turn_24]
theorem miL_eq (A : Nat → Nat) (c : Nat) : miL (l25 A) c = l25 (fun j => if j = 0 then mixN A 0 ^^^ c else mixN A j) := by
 rw [l25_eq, l25_eq]
 rfl
def roundL (l : List Nat) (c : Nat) : List Nat := miL (tuL (thL l)) c
theorem roundL_eq (A : Nat → Nat) (c : Nat) : roundL (l25 A) c = l25 (rndN A c) := by
 unfold roundL
 rw [thL_eq, tuL_eq, miL_eq]
 rfl
def permL (l : List Nat) : List Nat := rcL.foldl roundL l
theorem foldL_eq (A : Nat → Nat) : ∀ cs : List Nat, cs.foldl roundL (l25 A) = l25 (cs.foldl rndN A) := by
 intro cs
 induction cs generalizing A with
 | nil => rfl
 | cons c r ih => rw [List.foldl_cons, List.foldl_cons, roundL_eq, ih]
theorem permL_eq (A : Nat → Nat) : permL (l25 A) = l25 (permN A) := foldL_eq A rcL
theorem t0 : Nat.beq ((permL (List.replicate 25 0)).getD 0 0) 0xf1258f7940e1dde7 = true := by decide +kernel
end
section
open Go Go.RowKit
attribute [local go_sem] Oper.semAt_some Grows wide_fn
def luC (n : Nat) (A : Nat → Nat) : Array Value := ((List.range n).map fun i => Value.int .u64 ((A i : Nat) : Int)).toArray
theorem luC_size (n : Nat) (A : Nat → Nat) : (luC n A).size = n := by simp [luC]
theorem luC_get (n : Nat) (A : Nat → Nat) (j : Nat) (h : j < n) : (luC n A)[j]? = some (.int .u64 ((A j : Nat) : Int)) := by simp [luC, h]
theorem luC_congr (n : Nat) (A B : Nat → Nat) (h : ∀ j, j < n → A j = B j) : luC n A = luC n B := by
 unfold luC
 congr 1
 refine List.map_congr_left (fun i hi => ?_)
 rw [h i (List.mem_range.1 hi)]
theorem luC_set (n : Nat) (A B : Nat → Nat) (k v : Nat) (hB : ∀ j, j < n → B j = if j = k then v else A j) : (luC n A).setIfInBounds k (.int .u64 ((v : Nat) : Int)) = luC n B := by
 refine Array.ext (by simp [luC]) (fun i h1 h2 => ?_)
 have hi : i < n := by simpa [luC] using h2
 rw [Array.getElem_setIfInBounds (by simpa [luC] using hi)]
 simp only [luC, List.getElem_toArray, List.getElem_map, List.getElem_range]
 rw [hB i hi]
 by_cases e : k = i
 ·rw [if_pos e, if_pos e.symm]
 ·rw [if_neg e, if_neg (fun h => e h.symm)]
theorem lane_ret (x y : Int) (hx : 0 ≤ x ∧ x < 5) (hy : 0 ≤ y ∧ y < 5) : Ret Tryz.prog 131 #[.agg #[.int .u64 x, .int .u64 y]] (.int .u64 (5 * y + x)) := by
 intro w
 obtain ⟨x0, x1⟩ := hx
 obtain ⟨y0, y1⟩ := hy
 have L := Has.new w 162 #[.int .u64 x, .int .u64 y]
 have Q := newA w (.cells #[.int .u64 x, .int .u64 y] 162)
 have k0 := L.cell 0 _ rfl
 have k1 := L.cell 1 _ rfl
 clear L
 go_enter Tryz.func131, Tryz.ntmps131
 go_wp2
 go_ret
 exact ⟨rfl, Q⟩
theorem results_place {fn : Func} {t : Tmp} {tmps : Array Value} {W : World} {B : Nat} {x y : Int} (h : fn.results = #[ResultVar.cell t 162]) (ht : tmps.getD t undef = .pointer (some ⟨B, 0, none⟩)) (hA : Has W B 162 #[.int .u64 x, .int .u64 y]) :
  (results fn tmps).run Tryz.prog W = .ok (.agg #[.int .u64 x, .int .u64 y]) W := by
 have e0 := hA.cell 0 _ rfl
 have e1 := hA.cell 1 _ rfl
 simp at ht
 simp [results, h, ht, go_sem, e0, e1]
theorem next_ret (x y : Int) (hx : 0 ≤ x ∧ x < 5) (hy : 0 ≤ y ∧ y < 5) : Ret Tryz.prog 135 #[.agg #[.int .u64 x, .int .u64 y]] (.agg #[.int .u64 y, .int .u64 ((2 * x + 3 * y) % 5)]) := by
 intro w
 obtain ⟨x0, x1⟩ := hx
 obtain ⟨y0, y1⟩ := hy
 have e := Int.tmod_eq_emod_of_nonneg (show 0 ≤ 2 * x + 3 * y by omega) (b := 5)
 have h0 := Int.emod_nonneg (2 * x + 3 * y) (show (5 : Int) ≠ 0 by omega)
 have h1 := Int.emod_lt_of_pos (2 * x + 3 * y) (show (0 : Int) < 5 by omega)
 have L := (Has.new w 162 #[.int .u64 x, .int .u64 y]).alloc (.cells #[.int .u64 0, .int .u64 0] 162)
 have R := Has.new (w.alloc (.cells #[.int .u64 x, .int .u64 y] 162)) 162 #[.int .u64 0, .int .u64 0]
 have R2 := Has.new (w.alloc (.cells #[.int .u64 x, .int .u64 y] 162)) 162 #[.int .u64 y, .int .u64 ((2 * x + 3 * y) % 5)]
 simp only [World.size_alloc] at R R2
 have HR := hid R2
 have HQ := hid ((newA w (.cells #[.int .u64 x, .int .u64 y] 162)).alloc (by simp) (.cells #[.int .u64 y, .int .u64 ((2 * x + 3 * y) % 5)] 162))
 have k0 := L.cell 0 _ rfl
 have k1 := L.cell 1 _ rfl
 have r0 := R.cell 0 _ rfl
 have r1 := R.cell 1 _ rfl
 have z0 := R.frozen 0
 have z1 := R.frozen 1
 clear L R R2
 go_enter Tryz.func135, Tryz.ntmps135
 go_wp2
 refine bodyPost_ret (results_place rfl rfl HR.out) rfl ⟨rfl, HQ.out⟩
def besI (x on : Int) : Int := if x + on < 5 then x + on else x + on - 5
theorem beside_ret (x y on : Int) (hx : 0 ≤ x ∧ x < 5) (ho : 0 ≤ on ∧ on < 5) : Ret Tryz.prog 132 #[.agg #[.int .u64 x, .int .u64 y], .int .u64 on] (.agg #[.int .u64 (besI x on), .int .u64 y]) := by
 intro w
 obtain ⟨x0, x1⟩ := hx
 obtain ⟨o0, o1⟩ := ho
 have L := (Has.new w 162 #[.int .u64 x, .int .u64 y]).alloc (.cells #[.int .u64 0, .int .u64 0] 162)
 have R := Has.new (w.alloc (.cells #[.int .u64 x, .int .u64 y] 162)) 162 #[.int .u64 0, .int .u64 0]
 have R2 := Has.new (w.alloc (.cells #[.int .u64 x, .int .u64 y] 162)) 162 #[.int .u64 (besI x on), .int .u64 y]
 simp only [World.size_alloc] at R R2
 have HR := hid R2
 have HQ := hid ((newA w (.cells #[.int .u64 x, .int .u64 y] 162)).alloc (by simp) (.cells #[.int .u64 (besI x on), .int .u64 y] 162))
 have k0 := L.cell 0 _ rfl
 have k1 := L.cell 1 _ rfl
 have r0 := R.cell 0 _ rfl
 have r1 := R.cell 1 _ rfl
 have z0 := R.frozen 0
 have z1 := R.frozen 1
 clear L R R2
 by_cases h : x + on < 5
 ·have e : besI x on = x + on := if_pos h
  rw [e] at HR HQ ⊢
  go_enter Tryz.func132, Tryz.ntmps132
  go_wp2
  refine bodyPost_ret (results_place rfl rfl HR.out) rfl ⟨rfl, HQ.out⟩
 ·have e : besI x on = x + on - 5 := if_neg h
  rw [e] at HR HQ ⊢
  go_enter Tryz.func132, Tryz.ntmps132
  go_wp2
  refine bodyPost_ret (results_place rfl rfl HR.out) rfl ⟨rfl, HQ.out⟩
theorem rot_walk (x k s : Int) (u v r : Int) (hs : bits .and .u64 k 63 = s) (hs0 : 0 ≤ s ∧ s < 64) (hk : 0 ≤ k ∧ k < 9223372036854775808) (hu : IntKind.u64.wrap (x * 2 ^ s.toNat) = u) (hv : x / 2 ^ (64 - s).toNat = v) (hr : bits .or .u64 u v = r) :
  Ret Tryz.prog 133 #[.int .u64 x, .int .i64 k] (.int .u64 r) := by
 refine Ret.of_same fun w => ?_
 obtain ⟨s0, s1⟩ := hs0
 obtain ⟨k0, k1⟩ := hk
 go_enter Tryz.func133, Tryz.ntmps133
 go_wp2
 go_ret
 exact ⟨rfl, rfl⟩
end
section
open Go Go.RowKit Go.Shelf
attribute [local go_sem] Oper.semAt_some
theorem rot_ret (x k : Nat) (hx : x < 18446744073709551616) (hk : k < 4611686018427387904) : Ret Tryz.prog 133 #[.int .u64 (x : Int), .int .i64 (k : Int)] (.int .u64 ((rotl x (k % 64) : Nat) : Int)) := by
 have hs : bits .and .u64 (k : Int) 63 = ((k % 64 : Nat) : Int) := by
  rw [show (63 : Int) = ((63 : Nat) : Int) from rfl, bits_and_u64_nat k 63 (by omega) (by omega), show (63 : Nat) = 2 ^ 6 - 1 from rfl, Nat.and_two_pow_sub_one_eq_mod]
 have hlt : k % 64 < 64 := Nat.mod_lt _ (by omega)
 unfold rotl
 generalize k % 64 = s at *
 refine rot_walk (x : Int) (k : Int) (s : Int) ((x * 2 ^ s % 2 ^ 64 : Nat) : Int) ((x / 2 ^ (64 - s) : Nat) : Int) _ hs ⟨by omega, by omega⟩ ⟨by omega, by omega⟩ ?_ ?_ ?_
 ·rw [IntKind.wrap_u64, Int.toNat_natCast]
  rw [Int.natCast_emod, Int.natCast_mul, Int.natCast_pow]
  rfl
 ·rw [show (64 - (s : Int)).toNat = 64 - s by omega]
  rw [Int.natCast_ediv, Int.natCast_pow]
  rfl
 ·exact bits_or_u64_nat _ _ (Nat.mod_lt _ (by decide)) (Nat.lt_of_le_of_lt (Nat.div_le_self _ _) hx)
def plV (k : Nat) : Value := .agg #[.int .u64 ((k % 5 : Nat) : Int), .int .u64 ((k / 5 : Nat) : Int)]
theorem places_seq (n : Nat) (hn : 1 ≤ n) (Kp : World → World → Prop) (w : World) :
  SeqN Fence.wide n Tryz.prog 130 #[] (fun k => #[plV k]) Kp 25 w := by
 intro l J Jx W hW _ _ hY h0
 refine callsIn_of_wp Tryz.func130 rfl trivial ?_ rfl
 simp only [Tryz.ntmps130, List.size_toArray, List.length_cons, List.length_nil, Nat.reduceAdd, Nat.reduceSub, Array.replicate_succ, Array.replicate_zero, List.push_toArray, List.append_toArray, List.nil_append, List.cons_append]
 gi_wp2
 gi_loopw [4] (fun i wr => ∃ y : Nat, y ≤ 5 ∧ i = .int .u64 y ∧ J (5 * y) wr) (fun i _ => 5 - (intOf i).toNat)
 case atStart => exact ⟨0, Nat.zero_le _, rfl, h0⟩
 case round =>
  obtain ⟨y, hy, rfl, hJs⟩ := hrel
  by_cases hlt : y < 5
  ·have hyI : (y : Int) < 5 := by omega
   gi_wp2
   gi_loopw [7] (fun i wr => ∃ x : Nat, x ≤ 5 ∧ i = .int .u64 x ∧ J (5 * y + x) wr) (fun i _ => 5 - (intOf i).toNat)
   case atStart => exact ⟨0, Nat.zero_le _, rfl, hJs⟩
   case round =>
    clear hJs
    obtain ⟨x, hx, rfl, hJs⟩ := hrel
    by_cases hlx : x < 5
    ·have hxI : (x : Int) < 5 := by omega
     obtain ⟨fn, tmps, assign, body, hy, hR⟩ := hY (5 * y + x) _ (by omega) hJs
     have hp : plV (5 * y + x) = .agg #[.int .u64 (x : Int), .int .u64 (y : Int)] := by
      unfold plV
      rw [show (5 * y + x) % 5 = x by omega, show (5 * y + x) / 5 = y by omega]
     rw [hp] at hy
     clear hp
     gi_wp2
     refine hR.mono ?_
     rintro e W3 (⟨rfl, hJ3, _⟩ | ⟨rfl, hJx3⟩)
     ·gi_wp2
      go_roundw
      case rel => exact ⟨x + 1, by omega, by simp, hJ3⟩
      case measure => simp [intOf]; omega
     ·gi_wp2
      refine bodyPost_ret (results_none rfl _ _ _) rfl ?_
      exact ⟨⟨_, rfl⟩, .inr ⟨5 * y + x, by omega, hJx3⟩⟩
    ·obtain rfl : x = 5 := by omega
     gi_wp2
     go_roundw
     case rel => exact ⟨y + 1, by omega, by simp, hJs⟩
     case measure => simp [intOf]; omega
  ·obtain rfl : y = 5 := by omega
   gi_wp2
   go_end0
   exact ⟨⟨_, rfl⟩, .inl hJs⟩
end
section
open Go Go.RowKit Go.Shelf
attribute [local go_sem] Oper.semAt_some Grows wide_fn
theorem field0 (x y : Int) (W : World) : (Instr.field 162 (.agg #[.int .u64 x, .int .u64 y]) 0).run Tryz.prog W = .ok (.int .u64 x) W := by
 have u := Tryz.underlying162
 have a3 := Tryz.isAgg124
 unfold Instr.field
 simp only [Sem.run_bind, run_underlying u, Result.andThen_ok]
 simp [go_sem, part, asAgg, a3]
attribute [local go_sem] field0
theorem Has.grown {A X : World} {row : Option Nat} {B : Nat} {t : TypeId} {cs : Array Value} (h : Has A B t cs) (hg : A.grownBy X row) (hr : ∀ r, row = some r → ∃ o : Obj, A.heap[r]? = some o ∧ o.isCells = false) : Has X B t cs := by
 refine (hg.block B h.lt (fun e => ?_)).trans h
 obtain ⟨o, ho, hc⟩ := hr B e.symm
 rw [show A.heap[B]? = _ from h] at ho
 cases ho
 cases hc
theorem Has.kept {A X : World} {row : Option Nat} {B : Nat} {t : TypeId} {cs : Array Value} (h : Has A B t cs) (hg : A.grownBy X row) (hne : some B ≠ row) : Has X B t cs := (hg.block B h.lt hne).trans h
theorem grown_more {w A X : World} {B n : Nat} {row : Option Nat} (h : w.grownBy A (some B)) (hg : A.grownBy X row) (hn : w.heap.size ≤ n) (hr : ∀ r, row = some r → n ≤ r) : w.grownBy X (some B) :=
 ⟨hg.os.trans h.os, hg.tape.trans h.tape, hg.output.trans h.output, Nat.le_trans h.size hg.size, fun k hk hne => (hg.block k (Nat.lt_of_lt_of_le hk h.size) (fun e => by have := hr k e.symm; omega)).trans (h.block k hk hne)⟩
structure ThSt (w : World) (B : Nat) (A S : Nat → Nat) (W : World) : Prop where
 A : Has W B 112 (luC 25 A)
 P : Has W w.heap.size 118 #[.pointer (some ⟨B, 0, none⟩)]
 S : Has W (w.heap.size + 1) 159 (luC 5 S)
 G : w.grownBy W (some B)
theorem ThSt.own (w : World) (B n : Nat) (hn : w.heap.size ≤ n) (A S : Nat → Nat → Nat) : OwnFrom n (fun (k : Nat) W => ThSt w B (A k) (S k) W) := fun s X Y row hs hg hr =>
 ⟨hs.A.grown hg (fun r e => (hr r e).2), hs.P.grown hg (fun r e => (hr r e).2), hs.S.grown hg (fun r e => (hr r e).2), grown_more hs.G hg hn (fun r e => (hr r e).1)⟩
theorem ThSt.later {w : World} {B : Nat} {A S : Nat → Nat} {W X : World} (h : ThSt w B A S W) (hb : Below W.heap.size W X) : ThSt w B A S X :=
 ⟨h.A.later hb, h.P.later hb, h.S.later hb, grown_then_below h.G hb⟩
theorem ThSt.put {w : World} {B : Nat} {A S S' : Nat → Nat} {W : World} (h : ThSt w B A S W) (hB : B < w.heap.size) (j v : Nat) (hS : ∀ i, i < 5 → S' i = if i = j then v else S i) :
  ThSt w B A S' (W.setCell ⟨w.heap.size + 1, j, none⟩ (.int .u64 ((v : Nat) : Int))) :=
 ⟨h.A.other (by simp; omega) _, h.P.other (by simp) _, by have := h.S.set j (.int .u64 ((v : Nat) : Int)); rwa [luC_set 5 S S' j v hS] at this, grown_set h.G (.inr (by simp)) _⟩
theorem ThSt.putA {w : World} {B : Nat} {A A' S : Nat → Nat} {W : World} (h : ThSt w B A S W) (hB : B < w.heap.size) (j v : Nat) (hS : ∀ i, i < 25 → A' i = if i = j then v else A i) :
  ThSt w B A' S (W.setCell ⟨B, j, none⟩ (.int .u64 ((v : Nat) : Int))) :=
 ⟨by have := h.A.set j (.int .u64 ((v : Nat) : Int)); rwa [luC_set 25 A A' j v hS] at this, h.P.other (by simp; omega) _, h.S.other (by simp; omega) _, grown_set h.G (.inl rfl) _⟩
theorem plV_eq (k : Nat) : plV k = .agg #[.int .u64 ((k % 5 : Nat) : Int), .int .u64 ((k / 5 : Nat) : Int)] := rfl
theorem plane_ret (k : Nat) (hk : k < 25) : Ret Tryz.prog 131 #[.agg #[.int .u64 ((k % 5 : Nat) : Int), .int .u64 ((k / 5 : Nat) : Int)]] (.int .u64 (k : Int)) :=
 (lane_ret _ _ ⟨by omega, by omega⟩ ⟨by omega, by omega⟩).of_eq rfl (by congr 1; omega)
theorem pbes_ret (k on : Nat) (ho : on < 5) : Ret Tryz.prog 132 #[.agg #[.int .u64 ((k % 5 : Nat) : Int), .int .u64 ((k / 5 : Nat) : Int)], .int .u64 (on : Int)] (.agg #[.int .u64 (((k % 5 + on) % 5 : Nat) : Int), .int .u64 ((k / 5 : Nat) : Int)]) :=
 (beside_ret _ _ (on : Int) ⟨by omega, by omega⟩ ⟨by omega, by omega⟩).of_eq rfl (by
  have : besI ((k % 5 : Nat) : Int) (on : Int) = (((k % 5 + on) % 5 : Nat) : Int) := by unfold besI; split <;> omega
  rw [this])
theorem xor_i (a b : Nat) (ha : a < 2 ^ 64) (hb : b < 2 ^ 64) : bits .xor .u64 (a : Int) (b : Int) = ((a ^^^ b : Nat) : Int) := bits_xor_u64_nat a b ha hb
def thK (A : Nat → Nat) (k j : Nat) : Nat := if j < k then thetaN A j else A j
theorem theta_calls (B : Nat) (A : Nat → Nat) (hA : ∀ j, A j < 2 ^ 64) (w : World) (hB : Has w B 112 (luC 25 A)) :
  Calls Tryz.prog 105 #[.pointer (some ⟨B, 0, none⟩)] w fun e w' => (∃ v, e = .returned v) ∧ Has w' B 112 (luC 25 (thetaN A)) ∧ w.grownBy w' (some B) := by
 have hBl := hB.lt
 have hmx : Tryz.prog.follows .mixedOrders = true := by kernel_rfl
 refine (callsIn_wide (n := 8)).1 ?_
 refine callsIn_of_wp_marks Tryz.func105 rfl trivial ?_ rfl
 simp only [Tryz.ntmps105, List.size_toArray, List.length_cons, List.length_nil, Nat.reduceAdd, Nat.reduceSub, Array.replicate_succ, Array.replicate_zero, List.push_toArray, List.append_toArray, List.nil_append, List.cons_append]
 gi_wp2
 have LB := (hB.alloc (.cells #[.pointer (some ⟨B, 0, none⟩)] 118)).alloc (.cells (luC 5 (colK A 0)) 159)
 have LP := (Has.new w 118 #[.pointer (some ⟨B, 0, none⟩)]).alloc (.cells (luC 5 (colK A 0)) 159)
 have LS := Has.new (w.alloc (.cells #[.pointer (some ⟨B, 0, none⟩)] 118)) 159 (luC 5 (colK A 0))
 simp only [World.size_alloc] at LS
 have G := grown_alloc (grown_alloc (grown_of_below (Below.refl w.heap.size w) (some B)) (.cells #[.pointer (some ⟨B, 0, none⟩)] 118)) (.cells (luC 5 (colK A 0)) 159)
 have e5 : luC 5 (colK A 0) = #[.int .u64 0, .int .u64 0, .int .u64 0, .int .u64 0, .int .u64 0] := by rfl
 obtain ⟨W0, hW0⟩ : ∃ W0, (w.alloc (.cells #[.pointer (some ⟨B, 0, none⟩)] 118)).alloc (.cells (luC 5 (colK A 0)) 159) = W0 := ⟨_, rfl⟩
 have hsz : W0.heap.size = w.heap.size + 2 := by rw [← hW0]; simp
 rw [hW0] at LB LP LS G
 rw [e5] at hW0
 rw [hW0]
 have hJ0 : ThSt w B A (colK A 0) W0 := ⟨LB, LP, LS, G⟩
 clear hW0 LB LP LS G e5
 refine wpIn_rangeFunc_N rfl (by omega) (gf := 130) (lb := #[]) rfl trivial (enters_of Tryz.func130 (by kernel_rfl) rfl)
  (places_seq _ (by omega) (fun _ _ => True) W0) (fun _ _ => trivial) (fun _ _ _ _ _ _ _ _ => trivial) (fun _ _ => rfl)
  (fun k W => ThSt w B A (colK A k) W) (fun _ _ _ => False) (ThSt.own w B _ (by omega) (fun _ => A) (colK A)) (fun _ _ _ _ _ hs _ _ => hs) hJ0
  (fun k a' V => ∃ b, Has V b 162 #[.int .u64 ((k % 5 : Nat) : Int), .int .u64 ((k / 5 : Nat) : Int)] ∧ a' = { tmps := #[.pointer (some ⟨B, 0, none⟩), .pointer (some ⟨w.heap.size, 0, none⟩), .pointer (some ⟨w.heap.size + 1, 0, none⟩), .pointer (some ⟨b, 0, none⟩), undef, .agg #[.int .u64 ((k % 5 : Nat) : Int), .int .u64 ((k / 5 : Nat) : Int)], undef, undef, undef, undef, undef, undef, undef, undef, undef, undef, undef, undef, undef, undef, undef, undef, undef, undef, undef, undef, undef, undef, undef, undef, undef, undef, undef, undef, undef, undef, undef, undef, undef, undef], defers := [] }) (fun k a' _ X Y row hs hg hr => by obtain ⟨b, hH, e⟩ := hs; exact ⟨b, hH.grown hg (fun r e => (hr r e).2), e⟩) ?assign ?body ?done ?stop
 case assign =>
  intro l k W K hkN hst hK
  rw [plV_eq]
  have HST := hid hst
  have hWs := hst.G.size
  have hWs2 := hst.S.lt
  clear hst hkN
  have HK := hid hK
  clear hK
  gi_wp2
  exact HK.out _ _ ((KeepsOthers.alloc _ _).from _) trivial (HST.out.later ((Below.refl _ _).alloc (Nat.le_refl _) _)) ⟨_, Has.new _ _ _, rfl⟩
 case body =>
  rintro l k a' W hl hlo hkN hst ⟨b, hH, rfl⟩
  have hx5 : k % 5 < 5 := Nat.mod_lt _ (by omega)
  have hS' : ∀ i, i < 5 → colK A (k + 1) i = if i = k % 5 then colK A k (k % 5) ^^^ A k else colK A k i := fun i _ => by
   show (if i = k % 5 then colK A k i ^^^ A k else colK A k i) = _
   by_cases e : i = k % 5
   ·rw [if_pos e, if_pos e, e]
   ·rw [if_neg e, if_neg e]
  have hxr := xor_i (colK A k (k % 5)) (A k) (colK_lt A hA k _) (hA k)
  have HL := hid (plane_ret k hkN)
  have kb0 : ∀ x : Ext W, x.w.cell? ⟨b, 0, none⟩ = some (.int .u64 ((k % 5 : Nat) : Int)) := fun x => (hH.later x.below).cell 0 _ rfl
  have kb1 : ∀ x : Ext W, x.w.cell? ⟨b, 1, none⟩ = some (.int .u64 ((k / 5 : Nat) : Int)) := fun x => (hH.later x.below).cell 1 _ rfl
  have kS : ∀ x : Ext W, x.w.cell? ⟨w.heap.size + 1, k % 5, none⟩ = some (.int .u64 ((colK A k (k % 5) : Nat) : Int)) := fun x => (hst.S.later x.below).cell _ _ (luC_get 5 _ _ hx5)
  have kA : ∀ x : Ext W, x.w.cell? ⟨B, k, none⟩ = some (.int .u64 ((A k : Nat) : Int)) := fun x => (hst.A.later x.below).cell _ _ (luC_get 25 _ _ hkN)
  have kP : ∀ x : Ext W, x.w.cell? ⟨w.heap.size, 0, none⟩ = some (.pointer (some ⟨B, 0, none⟩)) := fun x => (hst.P.later x.below).cell 0 _ rfl
  have kz : ∀ x : Ext W, x.w.frozen? ⟨w.heap.size + 1, k % 5, none⟩ = false := fun x => (hst.S.later x.below).frozen _
  generalize colK A k (k % 5) ^^^ A k = r at *
  generalize colK A k (k % 5) = c at *
  generalize A k = ak at *
  generalize k % 5 = x5 at *
  generalize k / 5 = y5 at *
  have hx5I : (x5 : Int) < 5 := by omega
  have hk5I : (k : Int) < 25 := by omega
  have HST := hid hst
  have HS' := hid hS'
  clear hst hH hS' hkN hx5
  gi_wp2_with fail
  refine wpIn_region_mix (C := Grows W) (free_round l) [some true, some true, some true, some true, some true, some true, some true, some true, some true, some true, some true, some true, none] hmx (by kernel_rfl) (by kernel_rfl) (grows_refl W) ?_
  simp only [headOf, tailOf]
  repeat (go_big_quiet_step (first | (with_reducible exact Ret.at HL.out _)))
  refine wpQuiet_nil ?_
  rintro _ ⟨x, rfl⟩
  have H2 := hid ((HST.out.later x.below).put hBl x5 r HS'.out)
  have HKP := hid (x.keeps W0.heap.size)
  have kz' := kz x
  have kS' := kS x
  clear kz kS kA kP kb0 kb1
  go_wp2
  rw [calmPost_normal]
  gi_wp2
  exact ⟨HKP.out.trans ((KeepsOthers.setCell _ _ _).from _), trivial, H2.out⟩
 case done => 
  rintro D W hD hst hK
  have hWD : D < W.heap.size := (Array.getElem?_eq_some_iff.1 hK).1
  have hWs := hst.G.size
  have hJ2 : ThSt w B (thK A 0) (colK A 25) W := ⟨by rw [luC_congr 25 (thK A 0) A (fun j _ => by unfold thK; rw [if_neg (by omega)])]; exact hst.A, hst.P, hst.S, hst.G⟩
  have HK := hid hK
  clear hst hJ0 hK
  gi_wp2
  refine wpIn_rangeFunc_N rfl (by omega) (gf := 130) (lb := #[]) rfl trivial (enters_of Tryz.func130 (by kernel_rfl) rfl)
   (places_seq _ (by omega) (fun _ _ => True) W) (fun _ _ => trivial) (fun _ _ _ _ _ _ _ _ => trivial) (fun _ _ => rfl)
   (fun k W' => ThSt w B (thK A k) (colK A 25) W' ∧ W'.heap[D]? = some (.deferred (some []))) (fun _ _ _ => False)
   (fun s X Y row hs hg hr => ⟨ThSt.own w B W.heap.size (by omega) (thK A) (fun _ => colK A 25) s X Y row hs.1 hg hr, (hg.block D (Array.getElem?_eq_some_iff.1 hs.2).1 (fun e => by have := (hr D e.symm).1; omega)).trans hs.2⟩)
   (fun _ _ _ _ _ hs _ _ => hs) ⟨hJ2, HK.out⟩
   (fun k a' V => ∃ b, Has V b 162 #[.int .u64 ((k % 5 : Nat) : Int), .int .u64 ((k / 5 : Nat) : Int)] ∧ a' = { tmps := #[.pointer (some ⟨B, 0, none⟩), .pointer (some ⟨w.heap.size, 0, none⟩), .pointer (some ⟨w.heap.size + 1, 0, none⟩), undef, .pointer (some ⟨b, 0, none⟩), undef, undef, undef, undef, undef, undef, undef, undef, undef, undef, undef, undef, undef, .agg #[.int .u64 ((k % 5 : Nat) : Int), .int .u64 ((k / 5 : Nat) : Int)], undef, undef, undef, undef, undef, undef, undef, undef, undef, undef, undef, undef, undef, undef, undef, undef, undef, undef, undef, undef, undef], defers := [] }) (fun k a' _ X Y row hs hg hr => by obtain ⟨b, hH, e⟩ := hs; exact ⟨b, hH.grown hg (fun r e => (hr r e).2), e⟩) ?assign2 ?body2 ?done2 ?stop2
  case assign2 =>
   rintro l k W' K hkN ⟨hst, hD'⟩ hK
   rw [plV_eq]
   have HST := hid hst
   have HD' := hid hD'
   have hWs3 := hst.G.size
   have hWs4 := (Array.getElem?_eq_some_iff.1 hD').1
   have hWle : Hid (W'.heap.size = W'.heap.size) := hid rfl
   clear hst hkN hD'
   have HK2 := hid hK
   clear hK
   gi_wp2
   exact HK2.out _ _ ((KeepsOthers.alloc _ _).from _) trivial ⟨HST.out.later ((Below.refl _ _).alloc (Nat.le_refl _) _), (Below.heap_alloc _ _ _ hWs4).trans HD'.out⟩ ⟨_, Has.new _ _ _, rfl⟩
  case body2 =>
   rintro l k a' W' hl hlo hkN ⟨hst, hD'⟩ ⟨b, hH, rfl⟩
   have hx5 : (k % 5 + 4) % 5 < 5 := Nat.mod_lt _ (by omega)
   have hz5 : (k % 5 + 1) % 5 < 5 := Nat.mod_lt _ (by omega)
   have hS' : ∀ i, i < 25 → thK A (k + 1) i = if i = k then thetaN A k else thK A k i := fun i _ => by
    unfold thK
    by_cases e : i = k
    ·rw [if_pos e, if_pos (by omega), e]
    ·rw [if_neg e]
     by_cases e2 : i < k
     ·rw [if_pos e2, if_pos (by omega)]
     ·rw [if_neg e2, if_neg (by omega)]
   have hAk : thK A k k = A k := if_neg (Nat.lt_irrefl _)
   have hx1 := xor_i (colK A 25 ((k % 5 + 4) % 5)) (rotl (colK A 25 ((k % 5 + 1) % 5)) 1) (colK_lt A hA _ _) (rotl_lt _ _ (colK_lt A hA _ _))
   have hx2 := xor_i (A k) (colK A 25 ((k % 5 + 4) % 5) ^^^ rotl (colK A 25 ((k % 5 + 1) % 5)) 1) (hA k) (Nat.xor_lt_two_pow (colK_lt A hA _ _) (rotl_lt _ _ (colK_lt A hA _ _)))
   rw [show A k ^^^ (colK A 25 ((k % 5 + 4) % 5) ^^^ rotl (colK A 25 ((k % 5 + 1) % 5)) 1) = thetaN A k from rfl] at hx2
   have HL := hid (plane_ret k hkN)
   have HB4 : Hid (Ret Tryz.prog 132 #[.agg #[.int .u64 ((k % 5 : Nat) : Int), .int .u64 ((k / 5 : Nat) : Int)], .int .u64 4] (.agg #[.int .u64 (((k % 5 + 4) % 5 : Nat) : Int), .int .u64 ((k / 5 : Nat) : Int)])) := hid (pbes_ret k 4 (by omega))
   have HB1 : Hid (Ret Tryz.prog 132 #[.agg #[.int .u64 ((k % 5 : Nat) : Int), .int .u64 ((k / 5 : Nat) : Int)], .int .u64 1] (.agg #[.int .u64 (((k % 5 + 1) % 5 : Nat) : Int), .int .u64 ((k / 5 : Nat) : Int)])) := hid (pbes_ret k 1 (by omega))
   have HR : Hid (Ret Tryz.prog 133 #[.int .u64 ((colK A 25 ((k % 5 + 1) % 5) : Nat) : Int), .int .i64 1] (.int .u64 ((rotl (colK A 25 ((k % 5 + 1) % 5)) 1 : Nat) : Int))) := hid (rot_ret _ 1 (colK_lt A hA _ _) (by omega))
   have kb0 : ∀ x : Ext W', x.w.cell? ⟨b, 0, none⟩ = some (.int .u64 ((k % 5 : Nat) : Int)) := fun x => (hH.later x.below).cell 0 _ rfl
   have kb1 : ∀ x : Ext W', x.w.cell? ⟨b, 1, none⟩ = some (.int .u64 ((k / 5 : Nat) : Int)) := fun x => (hH.later x.below).cell 1 _ rfl
   have kS4 : ∀ x : Ext W', x.w.cell? ⟨w.heap.size + 1, (k % 5 + 4) % 5, none⟩ = some (.int .u64 ((colK A 25 ((k % 5 + 4) % 5) : Nat) : Int)) := fun x => (hst.S.later x.below).cell _ _ (luC_get 5 _ _ hx5)
   have kS1 : ∀ x : Ext W', x.w.cell? ⟨w.heap.size + 1, (k % 5 + 1) % 5, none⟩ = some (.int .u64 ((colK A 25 ((k % 5 + 1) % 5) : Nat) : Int)) := fun x => (hst.S.later x.below).cell _ _ (luC_get 5 _ _ hz5)
   have kA : ∀ x : Ext W', x.w.cell? ⟨B, k, none⟩ = some (.int .u64 ((A k : Nat) : Int)) := fun x => (hst.A.later x.below).cell _ _ (by rw [luC_get 25 _ _ hkN, hAk])
   have kP : ∀ x : Ext W', x.w.cell? ⟨w.heap.size, 0, none⟩ = some (.pointer (some ⟨B, 0, none⟩)) := fun x => (hst.P.later x.below).cell 0 _ rfl
   have kz : ∀ x : Ext W', x.w.frozen? ⟨B, k, none⟩ = false := fun x => (hst.A.later x.below).frozen _
   generalize thetaN A k = r at *
   generalize colK A 25 ((k % 5 + 4) % 5) ^^^ rotl (colK A 25 ((k % 5 + 1) % 5)) 1 = r1 at *
   generalize rotl (colK A 25 ((k % 5 + 1) % 5)) 1 = c1r at *
   generalize colK A 25 ((k % 5 + 4) % 5) = c4 at *
   generalize colK A 25 ((k % 5 + 1) % 5) = c1 at *
   generalize (k % 5 + 4) % 5 = x4 at *
   generalize (k % 5 + 1) % 5 = x1 at *
   generalize A k = ak at *
   generalize k % 5 = x5 at *
   generalize k / 5 = y5 at *
   have hx4I : (x4 : Int) < 5 := by omega
   have hx1I : (x1 : Int) < 5 := by omega
   have hk5I : (k : Int) < 25 := by omega
   have HST := hid hst
   have HD' := hid hD'
   have HS' := hid hS'
   have hDb : D ≠ B := by omega
   clear hst hH hS' hkN hx5 hz5 hAk hD'
   gi_wp2_with fail
   refine wpIn_region_mix (C := Grows W') (free_round l) [some true, some true, some true, some true, some true, some true, some true, some true, some true, some true, some true, some true, some true, some true, some true, some true, some true, some true, some true, some true, some true, none] hmx (by kernel_rfl) (by kernel_rfl) (grows_refl W') ?_
   simp only [headOf, tailOf]
   repeat (go_big_quiet_step (first | (with_reducible exact Ret.at HL.out _) | (with_reducible exact Ret.at HB4.out _) | (with_reducible exact Ret.at HB1.out _) | (with_reducible exact Ret.at HR.out _)))
   refine wpQuiet_nil ?_
   rintro _ ⟨x, rfl⟩
   have H2 := hid ((HST.out.later x.below).putA hBl k r HS'.out)
   have HKP := hid (x.keeps W.heap.size)
   have kz' := kz x
   have kA' := kA x
   have HD2 := hid ((Below.heap_setCell x.w ⟨B, k, none⟩ (.int .u64 (r : Int)) D hDb).trans ((x.below.block D (Array.getElem?_eq_some_iff.1 HD'.out).1).trans HD'.out))
   clear kz kS4 kS1 kA kP kb0 kb1
   go_wp2
   rw [calmPost_normal]
   gi_wp2
   exact ⟨HKP.out.trans ((KeepsOthers.setCell _ _ _).from _), trivial, H2.out, HD2.out⟩
  case done2 =>
   rintro D2 W2 hD2 ⟨hst, hK1⟩ hK2
   have HST := hid hst
   have HK1 := hid hK1
   have HK2 := hid hK2
   clear hst hK1 hK2 hJ2
   gi_wp2
   obtain ⟨W3, hW3⟩ : ∃ W3, W2.putObj D2 (.deferred none) = W3 := ⟨_, rfl⟩
   have hDD : D ≠ D2 := by omega
   have hK3 : W3.heap[D]? = some (.deferred (some [])) := by rw [← hW3]; exact (World.putObj_heap_other hDD).trans HK1.out
   have hne2 : D2 ≠ B := by omega
   have hne1 : D ≠ B := by omega
   have hA3 : Has W3 B 112 (luC 25 (thK A 25)) := by rw [← hW3]; exact (World.putObj_heap_other (fun e => hne2 e.symm)).trans HST.out.A
   have G3 : w.grownBy W3 (some B) := by rw [← hW3]; exact grown_putObj HST.out.G (by omega) _
   have hA4 : Has (W3.putObj D (.deferred none)) B 112 (luC 25 (thetaN A)) := by
    rw [luC_congr 25 (thetaN A) (thK A 25) (fun j hj => by unfold thK; rw [if_pos hj])]
    exact (World.putObj_heap_other (fun e => hne1 e.symm)).trans hA3
   refine ⟨by simp, .inl ⟨_, _, rfl, run_takeDeferred HK2.out, ?_⟩⟩
   rw [hW3]
   refine ⟨by simp, .inl ⟨_, _, rfl, run_takeDeferred hK3, ?_⟩⟩
   exact ⟨_, results_none rfl _ _ _, ⟨_, rfl⟩, hA4, grown_putObj G3 (by omega) _⟩
  case stop2 =>
   rintro D c k W _ _ h _
   exact h.elim
 case stop =>
  rintro D c k W _ _ h _
  exact h.elim
end
section
open Go Go.RowKit
def SeqB (F : Fence) (n : Nat) (P : Program) (g : Nat) (lb : Array Value) (enc : Nat → Array Value) (Kp : World → World → Prop) (N : Nat) (w : World) : Prop :=
 ∀ (l : Nat) (J Jx : Nat → World → Prop) (W : World), Below w.heap.size w W → (∀ s A X, J s A → Below W.heap.size A X → J s X) → (∀ s A X, Jx s A → Below W.heap.size A X → Jx s X) →
  (∀ k W1, k < N → J k W1 → YieldAt F (n - 1) P l (enc k) W1 fun e W' =>
   (e = .returned (.bool true) ∧ J (k + 1) W' ∧ Kp W1 W') ∨ (e = .returned (.bool false) ∧ Jx k W')) →
  J 0 W →
  CallsIn F n P g (#[.func (.yield l) #[] #[]] ++ lb) W fun e W' => (∃ v, e = .returned v) ∧ (J N W' ∨ ∃ k, k < N ∧ Jx k W')
variable {F : Fence} {n : Nat} {P : Program}
theorem wpIn_rangeFunc_B {g : Operand} {ps : Array Tmp} {assign body : Code} {Q : Exit → Act → World → Prop} {a : Act} {w : World}
  (hro : F.round = none) (h1 : 1 ≤ n) {gf : Nat} {lb : Array Value} (hg : a.eval g = .func (.func gf) #[] lb) (hFg : F.fn gf) (eg : ∀ args w, (callFunc gf args).run P w = .ok (.enter gf args) w)
  {enc : Nat → Array Value} {Kp : World → World → Prop} {N : Nat} (hseq : SeqB F (n - 1) P gf lb enc Kp N w)
  (hKt : ∀ {A B C : World}, Kp A B → Kp B C → Kp A C) (hKb : ∀ (W : World) (l : Nat) (o o' : Obj), w.heap.size ≤ l → W.heap[l]? = some o → o.isCells = false → o.isWalk = false → Kp W (W.putObj l o')) (hps : ∀ k, k < N → (enc k).size = ps.size)
  (I : Nat → World → Prop) (Ix : Code → Nat → World → Prop) (hI : OwnFrom w.heap.size I) (hIx : ∀ c, OwnFrom w.heap.size (Ix c)) (hIb : ∀ s A X, I s A → Below w.heap.size A X → I s X) (hIxb : ∀ c s A X, Ix c s A → Below w.heap.size A X → Ix c s X) (h0 : I 0 w) (Ax : Nat → Act → World → Prop) (hAx : ∀ k a', OwnFrom w.heap.size (fun (_ : Unit) W => Ax k a' W))
  (hassign : ∀ (l k : Nat) (W : World) (K : Act → World → Prop), k < N → I k W → (∀ a' W', KeepsFrom w.heap.size W W' → Kp W W' → I k W' → Ax k a' W' → K a' W') →
   assign.wpIn (F.inRound l) (n - 1 - 1) P (Exit.then K (fun _ _ _ => False)) { tmps := (ps.zip (enc k)).foldl (fun t (p, v) => t.setIfInBounds p v) a.tmps, defers := [] } W)
  (hbody : ∀ (l k : Nat) (a' : Act) (W : World), w.heap.size ≤ l → (∃ r, W.heap[l]? = some (.loop r)) → k < N → I k W → Ax k a' W → body.wpIn (F.inRound l) (n - 1 - 1) P (roundN w.heap.size Kp I Ix k W) a' W)
  (hdone : ∀ (D : Nat) (W : World), w.heap.size ≤ D → I N W → W.heap[D]? = some (.deferred (some [])) → Q .normal { a with defers := { target := .collected D, args := #[] } :: a.defers } W)
  (hstop : ∀ (D : Nat) (c : Code) (k : Nat) (W : World), w.heap.size ≤ D → k < N → Ix c k W → W.heap[D]? = some (.deferred (some [])) → c.wpIn F n P Q { a with defers := { target := .collected D, args := #[] } :: a.defers } W) :
  (Code.rangeFunc g ps assign body).wpIn F n P Q a w := by
 refine wpIn_rangeFunc ?_
 intro fn hfn
 rw [hro]
 obtain ⟨rec, hrec⟩ : ∃ rec : LoopState → Option Code → Loop, rec = fun st pe => { state := st, pending := pe, fn, tmps := a.tmps, params := ps, assign, body, defers := w.heap.size } := ⟨_, rfl⟩
 obtain ⟨W1, hW1⟩ : ∃ W1, (w.alloc (.deferred (some []))).alloc (.loop (rec .ready none)) = W1 := ⟨_, rfl⟩
 have hL1 : W1.heap[w.heap.size + 1]? = some (.loop (rec .ready none)) := by
  rw [← hW1]; have := World.alloc_heap_new (w.alloc (.deferred (some []))) (.loop (rec .ready none)); rwa [World.size_alloc] at this
 have hK1 : W1.heap[w.heap.size]? = some (.deferred (some [])) := by
  rw [← hW1]; exact (Below.heap_alloc _ _ _ (by simp)).trans (World.alloc_heap_new w _)
 have hI1 : I 0 W1 := by rw [← hW1]; exact hI.alloc _ (hI.alloc _ h0)
 have hb1 : Below w.heap.size w W1 := by
  rw [← hW1]; exact ((Below.refl _ w).alloc (Nat.le_refl _) _).alloc (by simp) _
 refine ⟨w.heap.size + 1, [{ target := .collected w.heap.size, args := #[] }], W1, { target := .fn (.func gf) lb, args := #[.func (.yield (w.heap.size + 1)) #[] #[]] }, W1, gf,
  #[.func (.yield (w.heap.size + 1)) #[] #[]] ++ lb, W1, ?_, ?_, ?_, ?_, fun _ => h1, ?_⟩
 ·rw [← hW1, hrec]; exact run_enterLoop_outer _ _ _ _ _
 ·simp only [resolve, hg]
  simp [go_sem]
 ·intro f' hf'; simp [Target.leads] at hf'; subst hf'; exact hFg
 ·simp [invoke, go_sem, eg]
 ·skip
  refine (hseq (w.heap.size + 1)
   (fun k W => I k W ∧ W.heap[w.heap.size + 1]? = some (.loop (rec .ready none)) ∧ W.heap[w.heap.size]? = some (.deferred (some [])))
   (fun k W => ∃ c, Ix c k W ∧ W.heap[w.heap.size + 1]? = some (.loop (rec .done (some c))) ∧ W.heap[w.heap.size]? = some (.deferred (some [])))
   W1 hb1
   (fun s A X hs hb => by
    have hsz : W1.heap.size = w.heap.size + 2 := by rw [← hW1]; simp
    exact ⟨hIb s A X hs.1 (hb.mono (by omega)), (hb.block _ (by omega)).trans hs.2.1, (hb.block _ (by omega)).trans hs.2.2⟩)
   (fun s A X hs hb => by
    have hsz : W1.heap.size = w.heap.size + 2 := by rw [← hW1]; simp
    obtain ⟨c, hc, hl, hk⟩ := hs
    exact ⟨c, hIxb c s A X hc (hb.mono (by omega)), (hb.block _ (by omega)).trans hl, (hb.block _ (by omega)).trans hk⟩)
   ?_ ⟨hI1, hL1, hK1⟩).mono ?_
  ·rintro k W hkN ⟨hi, hl, hk⟩
   have hlt : w.heap.size + 1 < W.heap.size := (Array.getElem?_eq_some_iff.1 hl).1
   have hy := run_yield (P := P) (args := enc k) hl (by rw [hrec]; exact hps k hkN)
   rw [hrec] at hy
   refine ⟨fn, _, assign, body, hy, roundIn_of_wpIn hfn (hassign _ k W _ hkN hi ?_)⟩
   clear hy
   intro a' Wa hkfa hkpa hia hax
   replace hl := hkfa.same _ _ (by omega) hl rfl
   replace hk := hkfa.same _ _ (Nat.le_refl _) hk rfl
   replace hlt : w.heap.size + 1 < Wa.heap.size := (Array.getElem?_eq_some_iff.1 hl).1
   refine ⟨_, run_beginRound hl (by rw [hrec]), ?_⟩
   have hl2 : (Wa.putObj (w.heap.size + 1) (.loop { rec .ready none with state := .busy })).heap[w.heap.size + 1]? = some (.loop { rec .ready none with state := .busy }) := World.putObj_heap_same hlt
   have hk2 : (Wa.putObj (w.heap.size + 1) (.loop { rec .ready none with state := .busy })).heap[w.heap.size]? = some (.deferred (some [])) := (World.putObj_heap_other (by omega)).trans hk
   have hw2 : Kp Wa (Wa.putObj (w.heap.size + 1) (.loop { rec .ready none with state := .busy })) := hKb _ _ _ _ (by omega) hl rfl rfl
   refine wpIn_mono (hbody _ k a' _ (by omega) ⟨_, hl2⟩ hkN (hI.putObj _ hia (by omega) hl rfl) ((hAx k a').putObj (s := ()) _ hax (by omega) hl rfl)) ?_
   have fin : ∀ (jump : Option Code) (W3 : World), KeepsFrom w.heap.size (Wa.putObj (w.heap.size + 1) (.loop { rec .ready none with state := .busy })) W3 →
     (Instr.endRound (w.heap.size + 1) jump).run P W3 = .ok (.bool jump.isNone) (W3.putObj (w.heap.size + 1) (.loop (rec (if jump.isNone then .ready else .done) jump))) ∧
     W3.heap[w.heap.size + 1]? = some (.loop { rec .ready none with state := .busy }) ∧
     (W3.putObj (w.heap.size + 1) (.loop (rec (if jump.isNone then .ready else .done) jump))).heap[w.heap.size + 1]? = some (.loop (rec (if jump.isNone then .ready else .done) jump)) ∧
     (W3.putObj (w.heap.size + 1) (.loop (rec (if jump.isNone then .ready else .done) jump))).heap[w.heap.size]? = some (.deferred (some [])) := fun jump W3 hk3 => by
    have hl3 := hk3.same _ _ (by omega) hl2 rfl
    have := run_endRound (P := P) jump hl3
    rw [hrec] at this ⊢
    exact ⟨this, by rw [hrec] at hl3; exact hl3, World.putObj_heap_same (Array.getElem?_eq_some_iff.1 hl3).1, (World.putObj_heap_other (by omega)).trans (hk3.same _ _ (Nat.le_refl _) hk2 rfl)⟩
   rintro e a3 W3 hp
   cases e with
   | normal =>
    obtain ⟨hk3, hkp3, hi3⟩ := hp
    obtain ⟨hr, hl3, hl4, hk4⟩ := fin none W3 hk3
    exact ⟨_, _, hr, .inl ⟨rfl, ⟨hI.putObj _ hi3 (by omega) hl3 rfl, hl4, hk4⟩, hKt hkpa (hKt (hKt hw2 hkp3) (hKb _ _ _ _ (by omega) hl3 rfl rfl))⟩⟩
   | ret =>
    obtain ⟨hk3, hi3⟩ := hp
    obtain ⟨hr, hl3, hl4, hk4⟩ := fin (some .ret) W3 hk3
    exact ⟨_, _, hr, .inr ⟨rfl, .ret, (hIx _).putObj _ hi3 (by omega) hl3 rfl, hl4, hk4⟩⟩
   | exit id =>
    obtain ⟨hk3, hi3⟩ := hp
    obtain ⟨hr, hl3, hl4, hk4⟩ := fin (some (.exit id)) W3 hk3
    exact ⟨_, _, hr, .inr ⟨rfl, .exit id, (hIx _).putObj _ hi3 (by omega) hl3 rfl, hl4, hk4⟩⟩
   | goto t =>
    obtain ⟨hk3, hi3⟩ := hp
    obtain ⟨hr, hl3, hl4, hk4⟩ := fin (some (.goto t)) W3 hk3
    exact ⟨_, _, hr, .inr ⟨rfl, .goto t, (hIx _).putObj _ hi3 (by omega) hl3 rfl, hl4, hk4⟩⟩
   | panic ch => exact hp.elim
   | outgrown => exact hp.elim
  ·rintro e W2 ⟨⟨v, rfl⟩, (⟨hi, hl, hk⟩ | ⟨k, hkN, c, hi, hl, hk⟩)⟩
   ·exact ⟨none, _, by have := run_endLoop (P := P) hl (by rw [hrec]; simp); rw [hrec] at this; exact this, hdone _ _ (Nat.le_refl _) (hI.putObj _ hi (by omega) hl rfl) ((World.putObj_heap_other (by omega)).trans hk)⟩
   ·exact ⟨some c, _, by have := run_endLoop (P := P) hl (by rw [hrec]; simp); rw [hrec] at this; exact this, hstop _ c k _ (Nat.le_refl _) hkN ((hIx c).putObj _ hi (by omega) hl rfl) ((World.putObj_heap_other (by omega)).trans hk)⟩
end
end Go.Proofs.YtkicmbdjihjgfaaGreatDoor
