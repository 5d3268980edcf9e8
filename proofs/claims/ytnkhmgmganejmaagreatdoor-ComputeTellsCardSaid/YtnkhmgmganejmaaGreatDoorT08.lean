/- Part. -/
import Derived.Test.YtnkhmgmganejmaaGreatDoorT07
set_option maxRecDepth 100000
set_option maxHeartbeats 16000000
namespace Go.Proofs.YtnkhmgmganejmaaGreatDoor
section
open Go Go.RowKit
theorem ln_pow (t j : Nat) (_ht : t < 256) : ln (2 ^ t) j = if j = t / 64 then 2 ^ (t % 64) else 0 := by
 refine Nat.eq_of_testBit_eq fun i => ?_
 rw [ln_bit, Nat.testBit_two_pow]
 split
 ·rename_i h
  rw [Nat.testBit_two_pow, ← Bool.decide_and]
  exact decide_eq_decide.2 (by omega)
 ·rename_i h
  rw [Nat.zero_testBit, ← Bool.decide_and]
  exact decide_eq_false (by omega)
theorem wrap_pow (r : Nat) (hr : r < 64) : IntKind.u64.wrap (2 ^ r) = ((2 ^ r : Nat) : Int) := by
 have : 2 ^ r < 2 ^ 64 := Nat.pow_lt_pow_right (by omega) hr
 have e : (2 : Int) ^ r = ((2 ^ r : Nat) : Int) := by simp
 rw [e, IntKind.wrap_u64]
 generalize 2 ^ r = x at *
 omega
theorem lim_put (m t : Nat) (ht : t < 256) : bits .or .u64 (lim m (t / 64)) (IntKind.u64.wrap (2 ^ (t % 64))) = lim (m ||| 2 ^ t) (t / 64) ∧ ∀ j, j < 4 → j ≠ t / 64 → lim (m ||| 2 ^ t) j = lim m j := by
 constructor
 ·have := bits_or_lim m (2 ^ t) (t / 64) (by omega)
  rw [lim_ln (2 ^ t) _ (by omega), ln_pow t _ ht, if_pos rfl] at this
  rw [wrap_pow _ (by omega)]
  exact this
 ·intro j hj hne
  rw [lim_ln _ _ hj, lim_ln _ _ hj, ln_or, ln_pow t j ht, if_neg hne, Nat.or_zero]
def putB (up : Int) (m p : Nat) : Nat := if 0 ≤ (p : Int) + up ∧ (p : Int) + up < 256 then m ||| 2 ^ ((p : Int) + up).toNat else m
def mvL (up : Int) (l : List Nat) : Nat := l.foldl (putB up) 0
theorem mvL_take (up : Int) (L : List Nat) (k : Nat) (hk : k < L.length) : mvL up (L.take (k + 1)) = putB up (mvL up (L.take k)) (L.getD k 0) := by
 unfold mvL
 rw [List.take_add_one, List.foldl_append, List.getElem?_eq_getElem hk, List.getD_eq_getElem?_getD, List.getElem?_eq_getElem hk]
 rfl
theorem putB_lt (up : Int) (m p : Nat) (hm : W256 m) : W256 (putB up m p) := by
 unfold putB
 split
 ·rename_i h
  exact or_lt _ _ hm ((w256_pow _).2 (Nat.pow_lt_pow_right (by omega) (by omega)))
 ·exact hm
theorem foldB_lt (up : Int) : ∀ (l : List Nat) (m : Nat), W256 m → W256 (l.foldl (putB up) m)
 | [], _, h => h
 | p :: l, m, h => foldB_lt up l _ (putB_lt up m p h)
theorem foldB_bit (up : Int) (i : Nat) : ∀ (l : List Nat) (m : Nat), (l.foldl (putB up) m).testBit i = true ↔ (m.testBit i = true ∨ ∃ p ∈ l, (p : Int) + up = i ∧ i < 256)
 | [], m => by simp
 | p :: l, m => by
  rw [List.foldl_cons, foldB_bit up i l]
  unfold putB
  constructor
  ·rintro (h | ⟨q, hq, h⟩)
   ·split at h
    ·rename_i hr
     rw [Nat.testBit_or, Bool.or_eq_true, Nat.testBit_two_pow, decide_eq_true_eq] at h
     rcases h with h | h
     ·exact .inl h
     ·exact .inr ⟨p, by simp, by omega, by omega⟩
    ·exact .inl h
   ·exact .inr ⟨q, by simp [hq], h⟩
  ·rintro (h | ⟨q, hq, h1, h2⟩)
   ·refine .inl ?_
    split
    ·rw [Nat.testBit_or, h]; rfl
    ·exact h
   ·rcases List.mem_cons.1 hq with rfl | hq
    ·refine .inl ?_
     rw [if_pos (by omega), Nat.testBit_or, Nat.testBit_two_pow, decide_eq_true (show ((q : Int) + up).toNat = i by omega)]
     simp
    ·exact .inr ⟨q, hq, h1, h2⟩
def mvN (a : Nat) (up : Int) : Nat := mvL up (allOnes a)
theorem mvN_bit (a : Nat) (up : Int) (ha : W256 a) (i : Nat) : (mvN a up).testBit i = true ↔ (i < 256 ∧ ∃ p : Nat, a.testBit p = true ∧ (p : Int) + up = i) := by
 unfold mvN mvL
 rw [foldB_bit, Nat.zero_testBit]
 simp only [Bool.false_eq_true, false_or]
 constructor
 ·rintro ⟨p, hp, h1, h2⟩; exact ⟨h2, p, (allOnes_mem a ha p).1 hp, h1⟩
 ·rintro ⟨h2, p, hp, h1⟩; exact ⟨p, (allOnes_mem a ha p).2 hp, h1, h2⟩
theorem mvN_up (a n : Nat) (ha : W256 a) : mvN a (n : Int) = wmod (a * 2 ^ n) := by
 refine Nat.eq_of_testBit_eq fun i => Bool.eq_iff_iff.2 ?_
 rw [mvN_bit a _ ha]
 have e : wmod (a * 2 ^ n) = (a * 2 ^ n) % 2 ^ 256 := by unfold wmod; rw [show (2 : Nat) ^ 256 = 115792089237316195423570985008687907853269984665640564039457584007913129639936 by decide]
 rw [e, Nat.testBit_mod_two_pow, Nat.testBit_mul_two_pow, Bool.and_eq_true, Bool.and_eq_true, decide_eq_true_eq, decide_eq_true_eq]
 constructor
 ·rintro ⟨h1, p, hp, h2⟩
  exact ⟨h1, by omega, by rw [show i - n = p by omega]; exact hp⟩
 ·rintro ⟨h1, h2, h3⟩
  exact ⟨h1, i - n, h3, by omega⟩
theorem mvN_down (a n : Nat) (ha : W256 a) : mvN a (-(n : Int)) = a / 2 ^ n := by
 refine Nat.eq_of_testBit_eq fun i => Bool.eq_iff_iff.2 ?_
 rw [mvN_bit a _ ha, Nat.testBit_div_two_pow]
 constructor
 ·rintro ⟨h1, p, hp, h2⟩
  rw [show i + n = p by omega]; exact hp
 ·intro h
  refine ⟨?_, i + n, h, by omega⟩
  rcases Nat.lt_or_ge i 256 with h' | h'
  ·exact h'
  ·have : a.testBit (i + n) = false := Nat.testBit_lt_two_pow (Nat.lt_of_lt_of_le ((w256_pow a).1 ha) (Nat.pow_le_pow_right (by omega) (by omega)))
   rw [this] at h; cases h
def limC (m : Nat) : Array Value := #[.int .u64 (lim m 0), .int .u64 (lim m 1), .int .u64 (lim m 2), .int .u64 (lim m 3)]
theorem limC_get (m j : Nat) (hj : j < 4) : (limC m)[j]? = some (.int .u64 (lim m j)) := by
 rcases (show j = 0 ∨ j = 1 ∨ j = 2 ∨ j = 3 by omega) with rfl | rfl | rfl | rfl <;> rfl
theorem limC_set (m m' j : Nat) (hj : j < 4) (h : ∀ i, i < 4 → i ≠ j → lim m' i = lim m i) : (limC m).setIfInBounds j (.int .u64 (lim m' j)) = limC m' := by
 unfold limC
 rcases (show j = 0 ∨ j = 1 ∨ j = 2 ∨ j = 3 by omega) with rfl | rfl | rfl | rfl
 ·rw [h 1 (by omega) (by omega), h 2 (by omega) (by omega), h 3 (by omega) (by omega)]; rfl
 ·rw [h 0 (by omega) (by omega), h 2 (by omega) (by omega), h 3 (by omega) (by omega)]; rfl
 ·rw [h 0 (by omega) (by omega), h 1 (by omega) (by omega), h 3 (by omega) (by omega)]; rfl
 ·rw [h 0 (by omega) (by omega), h 1 (by omega) (by omega), h 2 (by omega) (by omega)]; rfl
theorem Has.grown {A X : World} {row : Option Nat} {B : Nat} {t : TypeId} {cs : Array Value} (h : Has A B t cs) (hg : A.grownBy X row) (hr : ∀ r, row = some r → ∃ o : Obj, A.heap[r]? = some o ∧ o.isCells = false) : Has X B t cs := by
 refine (hg.block B h.lt (fun e => ?_)).trans h
 obtain ⟨o, ho, hc⟩ := hr B e.symm
 unfold Has at h
 rw [h] at ho
 injection ho with ho
 rw [← ho] at hc
 cases hc
theorem Tab.grown {A X : World} {row : Option Nat} {n : Nat} (h : Tab A) (hg : A.grownBy X row) (hn : 0 < n) (hr : ∀ r, row = some r → n ≤ r) : Tab X := by
 have hb : X.heap[0]? = A.heap[0]? := hg.block 0 h.lt (fun e => by have := hr 0 e.symm; omega)
 exact ⟨Nat.lt_of_lt_of_le h.lt hg.size, fun i hi => (World.cell?_of_block (w := A) (w' := X) (a := ⟨0, i, none⟩) hb).trans (h.cell i hi)⟩
end
section
open Go Go.RowKit
attribute [local go_sem] Oper.semAt_some Grows wide_fn
def RetT (P : Program) (f : FuncId) (args : Array Value) (v : Value) : Prop := ∀ w, Tab w → Calls P f args w fun e w' => e = .returned v ∧ Below w.heap.size w w'
theorem Ret.toT {P : Program} {f : FuncId} {args : Array Value} {v : Value} (h : Ret P f args v) : RetT P f args v := fun w _ => h w
theorem RetT.at {P : Program} {f : FuncId} {args : Array Value} {v : Value} (h : RetT P f args v) {W : World} (hT : Tab W) (x : Ext W) :
  Calls P f args x.w fun e w'' => e = .returned v ∧ ∃ y : Ext W, w'' = y.w :=
 (h x.w (hT.later x.below)).mono fun _ w' ⟨he, hb⟩ => ⟨he, ⟨w', x.2.trans (hb.mono x.2.size)⟩, rfl⟩
theorem ones_any (p : Addr) (w : World) :
  Calls Tryz.prog 170 #[.pointer (some p)] w fun e w' => e = .returned (.func (.func 180) #[] #[.pointer (some ⟨w.heap.size, 0, none⟩)]) ∧ w' = w.alloc (.cells #[.pointer (some p)] 125) := by
 go_enter Tryz.func170, Tryz.ntmps170
 go_wp2
 go_ret
 exact ⟨rfl, rfl⟩
structure MovSt (w : World) (a : Nat) (up : Int) (m : Nat) (W : World) : Prop where
 A : Has W w.heap.size 24 (limC a)
 U : Has W (w.heap.size + 1) 3 #[.int .i64 up]
 R : Has W (w.heap.size + 1 + 1) 24 #[.int .u64 0, .int .u64 0, .int .u64 0, .int .u64 0]
 M : Has W (w.heap.size + 1 + 1 + 1) 24 (limC m)
 P : Has W (w.heap.size + 1 + 1 + 1 + 1) 125 #[.pointer (some ⟨w.heap.size, 0, none⟩)]
 T : Tab W
 Q : Below w.heap.size w W
theorem MovSt.own (w : World) (a : Nat) (up : Int) (B : Nat) (hB : 0 < w.heap.size ∧ w.heap.size ≤ B) (m : Nat → Nat) : OwnFrom B (fun (k : Nat) W => MovSt w a up (m k) W) := fun s A X row hs hg hr =>
 ⟨hs.A.grown hg (fun r e => (hr r e).2), hs.U.grown hg (fun r e => (hr r e).2), hs.R.grown hg (fun r e => (hr r e).2), hs.M.grown hg (fun r e => (hr r e).2), hs.P.grown hg (fun r e => (hr r e).2), hs.T.grown hg (by omega) (fun r e => (hr r e).1),
  ⟨hg.os.trans hs.Q.os, hg.tape.trans hs.Q.tape, hg.output.trans hs.Q.output, Nat.le_trans hs.Q.size hg.size, fun k hk => (hg.block k (Nat.lt_of_lt_of_le hk hs.Q.size) (fun e => by have := (hr k e.symm).1; omega)).trans (hs.Q.block k hk)⟩⟩
theorem MovSt.later {w : World} {a : Nat} {up : Int} {m : Nat} {W X : World} (h : MovSt w a up m W) (hb : Below W.heap.size W X) : MovSt w a up m X :=
 ⟨h.A.later hb, h.U.later hb, h.R.later hb, h.M.later hb, h.P.later hb, h.T.later hb, h.Q.trans (hb.mono h.Q.size)⟩
theorem MovSt.put {w : World} {a : Nat} {up : Int} {m m' : Nat} {W : World} (_hw : 0 < w.heap.size) (h : MovSt w a up m W) (j : Nat) (hj : j < 4) (hm : ∀ i, i < 4 → i ≠ j → lim m' i = lim m i) :
  MovSt w a up m' (W.setCell ⟨w.heap.size + 1 + 1 + 1, j, none⟩ (.int .u64 (lim m' j))) :=
 ⟨h.A.other (by simp; omega) _, h.U.other (by simp) _, h.R.other (by simp) _, by have := h.M.set j (.int .u64 (lim m' j)); rwa [limC_set m m' j hj hm] at this, h.P.other (by simp) _, h.T.other (by simp) _, h.Q.setCell (by simp; omega) _⟩
theorem moved_ret (a : Nat) (up : Int) (_ha : W256 a) (hup : -4611686018427387904 ≤ up ∧ up ≤ 4611686018427387904) : RetT Tryz.prog 154 #[wv a, .int .i64 up] (wv (mvN a up)) := by
 intro w hT
 have hw0 := hT.lt
 have hmx : Tryz.prog.follows .mixedOrders = true := by kernel_rfl
 unfold wv
 have h1 : 1 ≤ 8 := by omega
 refine (callsIn_wide (n := 8)).1 ?_
 refine callsIn_of_wp_marks Tryz.func154 rfl trivial ?_ rfl
 simp only [Tryz.ntmps154, List.size_toArray, List.length_cons, List.length_nil, Nat.reduceAdd, Nat.reduceSub, Array.replicate_succ, Array.replicate_zero, List.push_toArray, List.append_toArray, List.nil_append, List.cons_append]
 gi_wp2_with (gi_at_call 170; refine (callsIn_free free_wide (ones_any _ _)).mono ?_; rintro e w' ⟨rfl, rfl⟩)
 have LA := Has.new w 24 (w4 (lim a))
 have LA := LA.alloc (.cells #[.int .i64 up] 3)
 have LA := LA.alloc (.cells z4 24)
 have LA := LA.alloc (.cells z4 24)
 have LA := LA.alloc (.cells #[.pointer (some ⟨w.heap.size, 0, none⟩)] 125)
 have LU := Has.new (w.alloc (.cells (w4 (lim a)) 24)) 3 #[.int .i64 up]
 simp only [World.size_alloc] at LU
 have LU := LU.alloc (.cells z4 24)
 have LU := LU.alloc (.cells z4 24)
 have LU := LU.alloc (.cells #[.pointer (some ⟨w.heap.size, 0, none⟩)] 125)
 have LR := Has.new ((w.alloc (.cells (w4 (lim a)) 24)).alloc (.cells #[.int .i64 up] 3)) 24 z4
 simp only [World.size_alloc] at LR
 have LR := LR.alloc (.cells z4 24)
 have LR := LR.alloc (.cells #[.pointer (some ⟨w.heap.size, 0, none⟩)] 125)
 have LM := Has.new (((w.alloc (.cells (w4 (lim a)) 24)).alloc (.cells #[.int .i64 up] 3)).alloc (.cells z4 24)) 24 z4
 simp only [World.size_alloc] at LM
 have LM := LM.alloc (.cells #[.pointer (some ⟨w.heap.size, 0, none⟩)] 125)
 have LP := Has.new ((((w.alloc (.cells (w4 (lim a)) 24)).alloc (.cells #[.int .i64 up] 3)).alloc (.cells z4 24)).alloc (.cells z4 24)) 125 #[.pointer (some ⟨w.heap.size, 0, none⟩)]
 simp only [World.size_alloc] at LP
 have Q := Below.refl w.heap.size w
 have Q := Q.alloc Q.size (.cells (w4 (lim a)) 24)
 have Q := Q.alloc Q.size (.cells #[.int .i64 up] 3)
 have Q := Q.alloc Q.size (.cells z4 24)
 have Q := Q.alloc Q.size (.cells z4 24)
 have Q := Q.alloc Q.size (.cells #[.pointer (some ⟨w.heap.size, 0, none⟩)] 125)
 have HT := (((((hT.alloc (.cells (w4 (lim a)) 24)).alloc (.cells #[.int .i64 up] 3)).alloc (.cells z4 24)).alloc (.cells z4 24)).alloc (.cells #[.pointer (some ⟨w.heap.size, 0, none⟩)] 125))
 obtain ⟨W0, hW0⟩ : ∃ W0, (((((w.alloc (.cells (w4 (lim a)) 24)).alloc (.cells #[.int .i64 up] 3)).alloc (.cells z4 24)).alloc (.cells z4 24)).alloc (.cells #[.pointer (some ⟨w.heap.size, 0, none⟩)] 125)) = W0 := ⟨_, rfl⟩
 have hsz : W0.heap.size = w.heap.size + 5 := by rw [← hW0]; simp
 rw [hW0] at LA LU LR LM LP Q HT ⊢
 clear hW0 hT
 have hz : ∀ j, lim 0 j = 0 := fun j => by unfold lim; split <;> simp
 have hJ0 : MovSt w a up (mvL up ((allOnes a).take 0)) W0 := ⟨LA, LU, LR, by rw [show limC (mvL up ((allOnes a).take 0)) = #[.int .u64 0, .int .u64 0, .int .u64 0, .int .u64 0] by unfold limC; simp [mvL, hz]]; exact LM, LP, HT, Q⟩
 clear LU LR LM hz Q
 refine wpIn_rangeFunc_N1 rfl (by omega) (gf := 180) (lb := #[.pointer (some ⟨w.heap.size + 1 + 1 + 1 + 1, 0, none⟩)]) rfl trivial (enters_of Tryz.func180 (by kernel_rfl) rfl)
  (ones_seq _ (by omega) _ _ a W0 (by omega) (by omega) HT (LP.cell 0 _ rfl) (fun j hj => LA.cell j _ (limC_get a j hj))) KeepsAt.trans (KeepsAt.refl _) (KeepsAt.b (by simp; omega)) (fun _ _ => rfl)
  (fun k W => MovSt w a up (mvL up ((allOnes a).take k)) W) (fun _ _ _ => False) (MovSt.own w a up _ ⟨hw0, by omega⟩ _) (fun _ _ _ _ _ hs _ _ => hs) hJ0
  (fun k => { tmps := #[.agg #[.int .u64 (lim a 0), .int .u64 (lim a 1), .int .u64 (lim a 2), .int .u64 (lim a 3)], .int .i64 up, .pointer (some ⟨w.heap.size, 0, none⟩), .pointer (some ⟨w.heap.size + 1, 0, none⟩), .pointer (some ⟨w.heap.size + 1 + 1, 0, none⟩), .pointer (some ⟨w.heap.size + 1 + 1 + 1, 0, none⟩), .int .i64 (((allOnes a).getD k 0 : Nat) : Int), undef, .agg #[.int .u64 0, .int .u64 0, .int .u64 0, .int .u64 0], .func (.func 180) #[] #[.pointer (some ⟨w.heap.size + 1 + 1 + 1 + 1, 0, none⟩)], .int .i64 (((allOnes a).getD k 0 : Nat) : Int), undef, undef, undef, undef, undef, undef, undef, undef, undef, undef, undef, undef, undef, undef, undef, undef, undef, undef, undef], defers := [] }) ?assign ?body ?done ?stop
 case assign =>
  intro l k W K hkN hK
  clear hkN
  generalize (allOnes a).getD k 0 = p at *
  gi_wp2
  exact hK
 case body =>
  rintro l k W hl hkN hst
  have hp : (allOnes a).getD k 0 < 256 := by
   rw [List.getD_eq_getElem?_getD, List.getElem?_eq_getElem hkN]
   exact allOnes_lt a _ (List.getElem_mem hkN)
  have hmv := mvL_take up (allOnes a) k hkN
  have hmw : W256 (mvL up ((allOnes a).take k)) := foldB_lt up _ 0 (by unfold W256; omega)
  generalize (allOnes a).getD k 0 = p at *
  have HST := hid hst
  have HMV := hid hmv
  have hpI : (p : Int) < 256 := by omega
  obtain ⟨hu1, hu2⟩ := hup
  clear hmv hst hJ0 LA LP HT hkN
  by_cases hx : 0 ≤ (p : Int) + up ∧ (p : Int) + up < 256
  ·obtain ⟨t, ht⟩ := Int.eq_ofNat_of_zero_le hx.1
   have ht6 : t < 256 := by omega
   obtain ⟨b1, b2⟩ := lim_put (mvL up ((allOnes a).take k)) t ht6
   have hpb : putB up (mvL up ((allOnes a).take k)) p = mvL up ((allOnes a).take k) ||| 2 ^ t := by
    unfold putB
    rw [if_pos hx, ht]
    rfl
   rw [hpb] at HMV
   obtain ⟨m', hm'⟩ : ∃ m', mvL up ((allOnes a).take (k + 1)) = m' := ⟨_, rfl⟩
   rw [hm'] at HMV
   have HM := hid hm'
   clear hm'
   generalize mvL up ((allOnes a).take k) = m at *
   rw [← HMV.out] at b1 b2
   have e1 : (t : Int).tdiv 64 = ((t / 64 : Nat) : Int) := by rw [Int.tdiv_eq_ediv_of_nonneg (by omega)]; omega
   have e2 : (t : Int).tmod 64 = ((t % 64 : Nat) : Int) := by rw [Int.tmod_eq_emod_of_nonneg (by omega)]; omega
   have hi4 : t / 64 < 4 := by omega
   have hr64 : t % 64 < 64 := by omega
   generalize t / 64 = i at *
   generalize t % 64 = r at *
   have hi4I : (i : Int) < 4 := by omega
   have hr64I : (r : Int) < 64 := by omega
   have ht6I : (t : Int) < 256 := by omega
   have HB2 := hid b2
   have HI4 := hid hi4
   have ku : W.cell? ⟨w.heap.size + 1, 0, none⟩ = some (.int .i64 up) := HST.out.U.cell 0 _ rfl
   have km : ∀ x : Ext W, x.w.cell? ⟨w.heap.size + 1 + 1 + 1, i, none⟩ = some (.int .u64 (lim m i)) := fun x => (HST.out.M.later x.below).cell i _ (limC_get m i hi4)
   have kz : ∀ x : Ext W, x.w.frozen? ⟨w.heap.size + 1 + 1 + 1, i, none⟩ = false := fun x => (HST.out.M.later x.below).frozen i
   clear hx hpb b2 hi4 hr64 ht6 HMV hp hmw
   gi_wp2_with fail
   refine wpIn_region_mix (C := Grows W) (free_round l) [some true, some true, some true, some true, some true, some true, some true, some true, some true, none] hmx (by kernel_rfl) (by kernel_rfl) (grows_refl W) ?_
   simp only [headOf, tailOf]
   repeat (go_big_quiet_step (fail))
   refine wpQuiet_nil ?_
   rintro _ ⟨x, rfl⟩
   have H2 := hid ((HST.out.later x.below).put hw0 (m' := m') i HI4.out HB2.out)
   have HKP := hid (x.keeps W0.heap.size)
   have kz' := kz x
   have km' := km x
   clear km kz
   go_wp2
   rw [calmPost_normal]
   gi_wp2
   refine ⟨HKP.out.trans ((KeepsOthers.setCell _ _ _).from _), ?_, by show MovSt w a up (mvL up ((allOnes a).take (k + 1))) _; rw [HM.out]; exact H2.out⟩
   refine KeepsAt.setCell (KeepsAt.below (KeepsAt.refl _ _) x.below (fun b' hb' => ?_)) (by simp; omega) _
   have := HST.out.P.lt
   simp at hb'
   omega
  ·have hpb : putB up (mvL up ((allOnes a).take k)) p = mvL up ((allOnes a).take k) := by unfold putB; rw [if_neg hx]
   rw [hpb] at HMV
   have H2 : Hid (MovSt w a up (mvL up ((allOnes a).take (k + 1))) W) := by rw [HMV.out]; exact HST.out
   have ku : W.cell? ⟨w.heap.size + 1, 0, none⟩ = some (.int .i64 up) := HST.out.U.cell 0 _ rfl
   clear hpb HMV hp hmw
   generalize mvL up ((allOnes a).take k) = m at *
   by_cases hx0 : 0 ≤ (p : Int) + up
   ·have hx1 : ¬ (p : Int) + up < 256 := fun h => hx ⟨hx0, h⟩
    clear hx
    gi_wp2
    exact ⟨KeepsFrom.refl _ _, KeepsAt.refl _ _, H2.out⟩
   ·clear hx
    gi_wp2
    exact ⟨KeepsFrom.refl _ _, KeepsAt.refl _ _, H2.out⟩
 case done =>
  rintro D W hD hst hK
  rw [List.take_length] at hst
  have HST := hid hst
  have HK := hid hK
  clear hst hK hJ0 LA LP HT
  have c0 : W.cell? ⟨w.heap.size + 1 + 1 + 1, 0, none⟩ = some (.int .u64 (lim (mvN a up) 0)) := HST.out.M.cell 0 _ (limC_get _ 0 (by omega))
  have c1 : W.cell? ⟨w.heap.size + 1 + 1 + 1, 1, none⟩ = some (.int .u64 (lim (mvN a up) 1)) := HST.out.M.cell 1 _ (limC_get _ 1 (by omega))
  have c2 : W.cell? ⟨w.heap.size + 1 + 1 + 1, 2, none⟩ = some (.int .u64 (lim (mvN a up) 2)) := HST.out.M.cell 2 _ (limC_get _ 2 (by omega))
  have c3 : W.cell? ⟨w.heap.size + 1 + 1 + 1, 3, none⟩ = some (.int .u64 (lim (mvN a up) 3)) := HST.out.M.cell 3 _ (limC_get _ 3 (by omega))
  obtain ⟨r0, r1, r2, r3⟩ := c4 HST.out.R
  have z0 := HST.out.R.frozen 0
  have z1 := HST.out.R.frozen 1
  have z2 := HST.out.R.frozen 2
  have z3 := HST.out.R.frozen 3
  have hRB : ∀ p : Addr, p.block = w.heap.size + 1 + 1 → w.heap.size ≤ p.block := fun p e => by omega
  have RR := hid ((((HST.out.R.set 0 (.int .u64 (lim (mvN a up) 0))).set 1 (.int .u64 (lim (mvN a up) 1))).set 2 (.int .u64 (lim (mvN a up) 2))).set 3 (.int .u64 (lim (mvN a up) 3)))
  have QQ := hid ((((HST.out.Q.setCell (p := ⟨w.heap.size + 1 + 1, 0, none⟩) (hRB _ rfl) (.int .u64 (lim (mvN a up) 0))).setCell (p := ⟨w.heap.size + 1 + 1, 1, none⟩) (hRB _ rfl) (.int .u64 (lim (mvN a up) 1))).setCell (p := ⟨w.heap.size + 1 + 1, 2, none⟩) (hRB _ rfl) (.int .u64 (lim (mvN a up) 2))).setCell (p := ⟨w.heap.size + 1 + 1, 3, none⟩) (hRB _ rfl) (.int .u64 (lim (mvN a up) 3)))
  have hDn : D ≠ w.heap.size + 1 + 1 := by omega
  clear hRB
  gi_wp2
  obtain ⟨W5, hW5⟩ : ∃ W5, ((((W.setCell ⟨w.heap.size + 1 + 1, 0, none⟩ (.int .u64 (lim (mvN a up) 0))).setCell ⟨w.heap.size + 1 + 1, 1, none⟩ (.int .u64 (lim (mvN a up) 1))).setCell ⟨w.heap.size + 1 + 1, 2, none⟩ (.int .u64 (lim (mvN a up) 2))).setCell ⟨w.heap.size + 1 + 1, 3, none⟩ (.int .u64 (lim (mvN a up) 3))) = W5 := ⟨_, rfl⟩
  have hK5 : W5.heap[D]? = some (.deferred (some [])) := by
   rw [← hW5]
   exact (Below.heap_setCell _ _ _ _ hDn).trans ((Below.heap_setCell _ _ _ _ hDn).trans ((Below.heap_setCell _ _ _ _ hDn).trans ((Below.heap_setCell _ _ _ _ hDn).trans HK.out)))
  have R5 := RR.out
  have Q5 := QQ.out
  rw [hW5] at R5 Q5 ⊢
  clear hW5 RR QQ c0 c1 c2 c3 r0 r1 r2 r3 z0 z1 z2 z3 HK HST
  have R6 : Has (W5.putObj D (.deferred none)) (w.heap.size + 1 + 1) 24 (limC (mvN a up)) := (World.putObj_heap_other (fun e => hDn e.symm)).trans R5
  have Q6 : Below w.heap.size w (W5.putObj D (.deferred none)) := Q5.trans (belowK_b (w := w) (Nat.le_refl _) _ D _ _ (by omega) hK5 rfl rfl)
  have e0 := R6.cell 0 _ (limC_get _ 0 (by omega))
  have e1 := R6.cell 1 _ (limC_get _ 1 (by omega))
  have e2 := R6.cell 2 _ (limC_get _ 2 (by omega))
  have e3 := R6.cell 3 _ (limC_get _ 3 (by omega))
  refine ⟨by simp, .inl ⟨_, _, rfl, run_takeDeferred hK5, ?_⟩⟩
  exact ⟨_, by simp [results, Tryz.f154, go_sem, e0, e1, e2, e3], rfl, Q6⟩
 case stop =>
  rintro D c k W _ _ h _
  exact h.elim
theorem and_walk (za zb z : Nat → Int) (h : Ret Tryz.prog 150 #[.agg #[.int .u64 (za 0), .int .u64 (za 1), .int .u64 (za 2), .int .u64 (za 3)], .agg #[.int .u64 (zb 0), .int .u64 (zb 1), .int .u64 (zb 2), .int .u64 (zb 3)]] (.agg #[.int .u64 (z 0), .int .u64 (z 1), .int .u64 (z 2), .int .u64 (z 3)])) :
  Ret Tryz.prog 122 #[.agg #[.int .u64 (za 0), .int .u64 (za 1), .int .u64 (za 2), .int .u64 (za 3)], .agg #[.int .u64 (zb 0), .int .u64 (zb 1), .int .u64 (zb 2), .int .u64 (zb 3)]] (.agg #[.int .u64 (z 0), .int .u64 (z 1), .int .u64 (z 2), .int .u64 (z 3)]) := by
 intro w
 have Hh := hid h
 clear h
 go_enter Tryz.func122, Tryz.ntmps122
 obtain ⟨⟨⟨k13, k14, k15, k16⟩, ⟨k17, k18, k19, k20⟩, ⟨k21, k22, k23, k24⟩⟩, W1, hW1, LA, LB, LR, Q⟩ := pwwz w 24 za zb
 go_wp2_with fail
 clear k13 k14 k15 k16 k17 k18 k19 k20 k21 k22 k23 k24
 rw [hW1.out]
 clear hW1
 refine (Hh.out _).mono ?_
 rintro e v25 ⟨rfl, q⟩
 have LA := LA.later q
 have LB := LB.later q
 have LR := LR.later q
 have Q := Q.trans (q.mono Q.size)
 clear q
 obtain ⟨r0, r1, r2, r3⟩ := c4 LR
 obtain ⟨z0, z1, z2, z3⟩ := f4 LR
 obtain ⟨k26, k27, k28, k29⟩ := c4 LA
 obtain ⟨k30, k31, k32, k33⟩ := c4 LB
 have HR := hid ((s4 LR z))
 have HQ := hid ((q4 (w.heap.size + 1 + 1) Q (by omega) z))
 clear Q LA LB LR
 go_wp2
 refine bodyPost_ret (results_word (m := z) rfl rfl HR.out) rfl ⟨rfl, HQ.out⟩
theorem and_ret (a b : Nat) (ha : W256 a) (hb : W256 b) : Ret Tryz.prog 122 #[wv a, wv b] (wv (a &&& b)) := and_walk (lim a) (lim b) (lim _) (pair_and a b ha hb)
theorem or_walk (za zb z : Nat → Int) (h : Ret Tryz.prog 151 #[.agg #[.int .u64 (za 0), .int .u64 (za 1), .int .u64 (za 2), .int .u64 (za 3)], .agg #[.int .u64 (zb 0), .int .u64 (zb 1), .int .u64 (zb 2), .int .u64 (zb 3)]] (.agg #[.int .u64 (z 0), .int .u64 (z 1), .int .u64 (z 2), .int .u64 (z 3)])) :
  Ret Tryz.prog 123 #[.agg #[.int .u64 (za 0), .int .u64 (za 1), .int .u64 (za 2), .int .u64 (za 3)], .agg #[.int .u64 (zb 0), .int .u64 (zb 1), .int .u64 (zb 2), .int .u64 (zb 3)]] (.agg #[.int .u64 (z 0), .int .u64 (z 1), .int .u64 (z 2), .int .u64 (z 3)]) := by
 intro w
 have Hh := hid h
 clear h
 go_enter Tryz.func123, Tryz.ntmps123
 obtain ⟨⟨⟨k13, k14, k15, k16⟩, ⟨k17, k18, k19, k20⟩, ⟨k21, k22, k23, k24⟩⟩, W1, hW1, LA, LB, LR, Q⟩ := pwwz w 24 za zb
 go_wp2_with fail
 clear k13 k14 k15 k16 k17 k18 k19 k20 k21 k22 k23 k24
 rw [hW1.out]
 clear hW1
 refine (Hh.out _).mono ?_
 rintro e v25 ⟨rfl, q⟩
 have LA := LA.later q
 have LB := LB.later q
 have LR := LR.later q
 have Q := Q.trans (q.mono Q.size)
 clear q
 obtain ⟨r0, r1, r2, r3⟩ := c4 LR
 obtain ⟨z0, z1, z2, z3⟩ := f4 LR
 obtain ⟨k26, k27, k28, k29⟩ := c4 LA
 obtain ⟨k30, k31, k32, k33⟩ := c4 LB
 have HR := hid ((s4 LR z))
 have HQ := hid ((q4 (w.heap.size + 1 + 1) Q (by omega) z))
 clear Q LA LB LR
 go_wp2
 refine bodyPost_ret (results_word (m := z) rfl rfl HR.out) rfl ⟨rfl, HQ.out⟩
theorem or_ret (a b : Nat) (ha : W256 a) (hb : W256 b) : Ret Tryz.prog 123 #[wv a, wv b] (wv (a ||| b)) := or_walk (lim a) (lim b) (lim _) (pair_or a b ha hb)
theorem xor_walk (za zb z : Nat → Int) (h : Ret Tryz.prog 152 #[.agg #[.int .u64 (za 0), .int .u64 (za 1), .int .u64 (za 2), .int .u64 (za 3)], .agg #[.int .u64 (zb 0), .int .u64 (zb 1), .int .u64 (zb 2), .int .u64 (zb 3)]] (.agg #[.int .u64 (z 0), .int .u64 (z 1), .int .u64 (z 2), .int .u64 (z 3)])) :
  Ret Tryz.prog 124 #[.agg #[.int .u64 (za 0), .int .u64 (za 1), .int .u64 (za 2), .int .u64 (za 3)], .agg #[.int .u64 (zb 0), .int .u64 (zb 1), .int .u64 (zb 2), .int .u64 (zb 3)]] (.agg #[.int .u64 (z 0), .int .u64 (z 1), .int .u64 (z 2), .int .u64 (z 3)]) := by
 intro w
 have Hh := hid h
 clear h
 go_enter Tryz.func124, Tryz.ntmps124
 obtain ⟨⟨⟨k13, k14, k15, k16⟩, ⟨k17, k18, k19, k20⟩, ⟨k21, k22, k23, k24⟩⟩, W1, hW1, LA, LB, LR, Q⟩ := pwwz w 24 za zb
 go_wp2_with fail
 clear k13 k14 k15 k16 k17 k18 k19 k20 k21 k22 k23 k24
 rw [hW1.out]
 clear hW1
 refine (Hh.out _).mono ?_
 rintro e v25 ⟨rfl, q⟩
 have LA := LA.later q
 have LB := LB.later q
 have LR := LR.later q
 have Q := Q.trans (q.mono Q.size)
 clear q
 obtain ⟨r0, r1, r2, r3⟩ := c4 LR
 obtain ⟨z0, z1, z2, z3⟩ := f4 LR
 obtain ⟨k26, k27, k28, k29⟩ := c4 LA
 obtain ⟨k30, k31, k32, k33⟩ := c4 LB
 have HR := hid ((s4 LR z))
 have HQ := hid ((q4 (w.heap.size + 1 + 1) Q (by omega) z))
 clear Q LA LB LR
 go_wp2
 refine bodyPost_ret (results_word (m := z) rfl rfl HR.out) rfl ⟨rfl, HQ.out⟩
theorem xor_ret (a b : Nat) (ha : W256 a) (hb : W256 b) : Ret Tryz.prog 124 #[wv a, wv b] (wv (a ^^^ b)) := xor_walk (lim a) (lim b) (lim _) (pair_xor a b ha hb)
theorem not_walk (za zm z : Nat → Int) (h1 : Ret Tryz.prog 134 #[.int .i64 (-1)] (.agg #[.int .u64 (zm 0), .int .u64 (zm 1), .int .u64 (zm 2), .int .u64 (zm 3)])) (h2 : Ret Tryz.prog 124 #[.agg #[.int .u64 (za 0), .int .u64 (za 1), .int .u64 (za 2), .int .u64 (za 3)], .agg #[.int .u64 (zm 0), .int .u64 (zm 1), .int .u64 (zm 2), .int .u64 (zm 3)]] (.agg #[.int .u64 (z 0), .int .u64 (z 1), .int .u64 (z 2), .int .u64 (z 3)])) :
  Ret Tryz.prog 107 #[.agg #[.int .u64 (za 0), .int .u64 (za 1), .int .u64 (za 2), .int .u64 (za 3)]] (.agg #[.int .u64 (z 0), .int .u64 (z 1), .int .u64 (z 2), .int .u64 (z 3)]) := by
 intro w
 have Hh1 := hid h1
 have Hh2 := hid h2
 clear h1 h2
 go_enter Tryz.func107, Tryz.ntmps107
 obtain ⟨⟨⟨k5, k6, k7, k8⟩, ⟨k9, k10, k11, k12⟩⟩, W1, hW1, LA, LR, Q⟩ := pwz w 24 za
 go_wp2_with fail
 clear k5 k6 k7 k8 k9 k10 k11 k12
 rw [hW1.out]
 clear hW1
 obtain ⟨k13, k14, k15, k16⟩ := e4 LA
 obtain ⟨k17, k18, k19, k20⟩ := e4 LR
 have hmx : Tryz.prog.follows .mixedOrders = true := by kernel_rfl
 refine wp_region_mix (C := Grows W1) [some true, some true, some true, none] hmx (by kernel_rfl) (by kernel_rfl) (grows_refl W1) ?_
 simp only [headOf, tailOf]
 repeat (go_big_quiet_step (first | (with_reducible exact Ret.at Hh1.out _) | (with_reducible exact Ret.at Hh2.out _)))
 refine wpQuiet_nil ?_
 rintro _ ⟨x21, rfl⟩
 clear k13 k14 k15 k16 k17 k18 k19 k20
 have LR := LR.later x21.below
 have Q := Q.trans (x21.below.mono Q.size)
 obtain ⟨r0, r1, r2, r3⟩ := c4 LR
 obtain ⟨z0, z1, z2, z3⟩ := f4 LR
 have HR := hid ((s4 LR z))
 have HQ := hid ((q4 (w.heap.size + 1) Q (by omega) z))
 clear Q LA LR
 go_wp2
 rw [calmPost_normal]
 go_wp2
 refine bodyPost_ret (results_word (m := z) rfl rfl HR.out) rfl ⟨rfl, HQ.out⟩
def M1 : Nat := 115792089237316195423570985008687907853269984665640564039457584007913129639935
theorem ofN_m1 : ofN (-1) = M1 := by decide
theorem M1_lt : W256 M1 := by unfold W256 M1; omega
theorem not_ret (a : Nat) (ha : W256 a) : Ret Tryz.prog 107 #[wv a] (wv (a ^^^ M1)) := by
 have h := of_ret (-1) (by unfold I64; omega)
 rw [ofN_m1] at h
 exact not_walk (lim a) (lim M1) (lim _) h (xor_ret a M1 ha M1_lt)
theorem dist_walk (zb : Nat → Int) (d : Int) (h : Ret Tryz.prog 146 #[.agg #[.int .u64 (zb 0), .int .u64 (zb 1), .int .u64 (zb 2), .int .u64 (zb 3)]] (.tuple #[.int .i64 d, .bool true])) :
  Ret Tryz.prog 155 #[.agg #[.int .u64 (zb 0), .int .u64 (zb 1), .int .u64 (zb 2), .int .u64 (zb 3)]] (.int .i64 d) := by
 intro w
 have Hh := hid h
 clear h
 go_enter Tryz.func155, Tryz.ntmps155
 have LB := Has.new w 24 (w4 zb)
 obtain ⟨k1, k2, k3, k4⟩ := c4 LB
 have Q := (Below.refl w.heap.size w)
 have Q := Q.alloc Q.size (.cells (w4 zb) 24)
 go_wp2_with fail
 clear k1 k2 k3 k4
 obtain ⟨W1, hW1⟩ : ∃ W1, (w.alloc (.cells (w4 zb) 24)) = W1 := ⟨_, rfl⟩
 rw [hW1] at LB Q ⊢
 clear hW1
 refine (Hh.out _).mono ?_
 rintro e v5 ⟨rfl, q⟩
 have LB := LB.later q
 have Q := Q.trans (q.mono Q.size)
 clear q
 obtain ⟨k6, k7, k8, k9⟩ := c4 LB
 go_wp2
 clear k6 k7 k8 k9
 go_ret
 exact ⟨rfl, Q⟩
theorem dist_far (zb : Nat → Int) (h : Ret Tryz.prog 146 #[.agg #[.int .u64 (zb 0), .int .u64 (zb 1), .int .u64 (zb 2), .int .u64 (zb 3)]] (.tuple #[.int .i64 0, .bool false])) :
  Ret Tryz.prog 155 #[.agg #[.int .u64 (zb 0), .int .u64 (zb 1), .int .u64 (zb 2), .int .u64 (zb 3)]] (.int .i64 256) := by
 intro w
 have Hh := hid h
 clear h
 go_enter Tryz.func155, Tryz.ntmps155
 have LB := Has.new w 24 (w4 zb)
 obtain ⟨k1, k2, k3, k4⟩ := c4 LB
 have Q := (Below.refl w.heap.size w)
 have Q := Q.alloc Q.size (.cells (w4 zb) 24)
 go_wp2_with fail
 clear k1 k2 k3 k4
 obtain ⟨W1, hW1⟩ : ∃ W1, (w.alloc (.cells (w4 zb) 24)) = W1 := ⟨_, rfl⟩
 rw [hW1] at LB Q ⊢
 clear hW1
 refine (Hh.out _).mono ?_
 rintro e v5 ⟨rfl, q⟩
 have LB := LB.later q
 have Q := Q.trans (q.mono Q.size)
 clear q
 obtain ⟨k6, k7, k8, k9⟩ := c4 LB
 go_wp2
 clear k6 k7 k8 k9
 go_ret
 exact ⟨rfl, Q⟩
def distN (b : Nat) : Nat := if b ≤ maxI then b else 256
theorem distN_le (b : Nat) : distN b ≤ 4611686018427387903 := by unfold distN maxI; split <;> omega
theorem dist_ret (b : Nat) (hb : W256 b) : Ret Tryz.prog 155 #[wv b] (.int .i64 (distN b : Int)) := by
 have h := int_ret b hb
 unfold intV at h
 unfold distN
 by_cases hm : b ≤ maxI
 ·rw [if_pos hm] at h ⊢; exact dist_walk (lim b) _ h
 ·rw [if_neg hm] at h ⊢; exact dist_far (lim b) h
theorem shl_walk (zb za z : Nat → Int) (d : Int) (h1 : Ret Tryz.prog 155 #[.agg #[.int .u64 (zb 0), .int .u64 (zb 1), .int .u64 (zb 2), .int .u64 (zb 3)]] (.int .i64 d)) (h2 : RetT Tryz.prog 154 #[.agg #[.int .u64 (za 0), .int .u64 (za 1), .int .u64 (za 2), .int .u64 (za 3)], .int .i64 d] (.agg #[.int .u64 (z 0), .int .u64 (z 1), .int .u64 (z 2), .int .u64 (z 3)])) :
  RetT Tryz.prog 126 #[.agg #[.int .u64 (zb 0), .int .u64 (zb 1), .int .u64 (zb 2), .int .u64 (zb 3)], .agg #[.int .u64 (za 0), .int .u64 (za 1), .int .u64 (za 2), .int .u64 (za 3)]] (.agg #[.int .u64 (z 0), .int .u64 (z 1), .int .u64 (z 2), .int .u64 (z 3)]) := by
 intro w HT
 have Hh1 := hid h1
 have Hh2 := hid h2
 clear h1 h2
 go_enter Tryz.func126, Tryz.ntmps126
 have LB := Has.new w 24 (w4 zb)
 obtain ⟨k1, k2, k3, k4⟩ := c4 LB
 have LB := LB.alloc (.cells (w4 za) 24)
 have LA := Has.new (w.alloc (.cells (w4 zb) 24)) 24 (w4 za)
 simp only [World.size_alloc] at LA
 obtain ⟨k5, k6, k7, k8⟩ := c4 LB
 obtain ⟨k9, k10, k11, k12⟩ := c4 LA
 have LB := LB.alloc (.cells z4 24)
 have LA := LA.alloc (.cells z4 24)
 have LR := Has.new ((w.alloc (.cells (w4 zb) 24)).alloc (.cells (w4 za) 24)) 24 z4
 simp only [World.size_alloc] at LR
 obtain ⟨k13, k14, k15, k16⟩ := c4 LB
 obtain ⟨k17, k18, k19, k20⟩ := c4 LA
 obtain ⟨k21, k22, k23, k24⟩ := c4 LR
 have Q := (Below.refl w.heap.size w)
 have Q := Q.alloc Q.size (.cells (w4 zb) 24)
 have HT := HT.alloc (.cells (w4 zb) 24)
 have Q := Q.alloc Q.size (.cells (w4 za) 24)
 have HT := HT.alloc (.cells (w4 za) 24)
 have Q := Q.alloc Q.size (.cells z4 24)
 have HT := HT.alloc (.cells z4 24)
 go_wp2_with fail
 clear k1 k2 k3 k4 k5 k6 k7 k8 k9 k10 k11 k12 k13 k14 k15 k16 k17 k18 k19 k20 k21 k22 k23 k24
 obtain ⟨W1, hW1⟩ : ∃ W1, (((w.alloc (.cells (w4 zb) 24)).alloc (.cells (w4 za) 24)).alloc (.cells z4 24)) = W1 := ⟨_, rfl⟩
 rw [hW1] at LB LA LR Q HT ⊢
 clear hW1
 obtain ⟨k25, k26, k27, k28⟩ := e4 LB
 obtain ⟨k29, k30, k31, k32⟩ := e4 LA
 obtain ⟨k33, k34, k35, k36⟩ := e4 LR
 have hmx : Tryz.prog.follows .mixedOrders = true := by kernel_rfl
 refine wp_region_mix (C := Grows W1) [some true, some true, some true, some true, none] hmx (by kernel_rfl) (by kernel_rfl) (grows_refl W1) ?_
 simp only [headOf, tailOf]
 repeat (go_big_quiet_step (first | (with_reducible exact Ret.at Hh1.out _) | (with_reducible exact RetT.at Hh2.out HT _)))
 refine wpQuiet_nil ?_
 rintro _ ⟨x37, rfl⟩
 clear k25 k26 k27 k28 k29 k30 k31 k32 k33 k34 k35 k36
 have LR := LR.later x37.below
 have Q := Q.trans (x37.below.mono Q.size)
 obtain ⟨r0, r1, r2, r3⟩ := c4 LR
 obtain ⟨z0, z1, z2, z3⟩ := f4 LR
 have HR := hid ((s4 LR z))
 have HQ := hid ((q4 (w.heap.size + 1 + 1) Q (by omega) z))
 clear Q LB LA LR
 go_wp2
 rw [calmPost_normal]
 go_wp2
 refine bodyPost_ret (results_word (m := z) rfl rfl HR.out) rfl ⟨rfl, HQ.out⟩
theorem shr_walk (zb za z : Nat → Int) (d : Int) (hd : 0 ≤ d ∧ d ≤ 4611686018427387904) (h1 : Ret Tryz.prog 155 #[.agg #[.int .u64 (zb 0), .int .u64 (zb 1), .int .u64 (zb 2), .int .u64 (zb 3)]] (.int .i64 d)) (h2 : RetT Tryz.prog 154 #[.agg #[.int .u64 (za 0), .int .u64 (za 1), .int .u64 (za 2), .int .u64 (za 3)], .int .i64 (-d)] (.agg #[.int .u64 (z 0), .int .u64 (z 1), .int .u64 (z 2), .int .u64 (z 3)])) :
  RetT Tryz.prog 127 #[.agg #[.int .u64 (zb 0), .int .u64 (zb 1), .int .u64 (zb 2), .int .u64 (zb 3)], .agg #[.int .u64 (za 0), .int .u64 (za 1), .int .u64 (za 2), .int .u64 (za 3)]] (.agg #[.int .u64 (z 0), .int .u64 (z 1), .int .u64 (z 2), .int .u64 (z 3)]) := by
 intro w HT
 obtain ⟨hd1, hd2⟩ := hd
 have Hh1 := hid h1
 have Hh2 := hid h2
 clear h1 h2
 go_enter Tryz.func127, Tryz.ntmps127
 have LB := Has.new w 24 (w4 zb)
 obtain ⟨k1, k2, k3, k4⟩ := c4 LB
 have LB := LB.alloc (.cells (w4 za) 24)
 have LA := Has.new (w.alloc (.cells (w4 zb) 24)) 24 (w4 za)
 simp only [World.size_alloc] at LA
 obtain ⟨k5, k6, k7, k8⟩ := c4 LB
 obtain ⟨k9, k10, k11, k12⟩ := c4 LA
 have LB := LB.alloc (.cells z4 24)
 have LA := LA.alloc (.cells z4 24)
 have LR := Has.new ((w.alloc (.cells (w4 zb) 24)).alloc (.cells (w4 za) 24)) 24 z4
 simp only [World.size_alloc] at LR
 obtain ⟨k13, k14, k15, k16⟩ := c4 LB
 obtain ⟨k17, k18, k19, k20⟩ := c4 LA
 obtain ⟨k21, k22, k23, k24⟩ := c4 LR
 have Q := (Below.refl w.heap.size w)
 have Q := Q.alloc Q.size (.cells (w4 zb) 24)
 have HT := HT.alloc (.cells (w4 zb) 24)
 have Q := Q.alloc Q.size (.cells (w4 za) 24)
 have HT := HT.alloc (.cells (w4 za) 24)
 have Q := Q.alloc Q.size (.cells z4 24)
 have HT := HT.alloc (.cells z4 24)
 go_wp2_with fail
 clear k1 k2 k3 k4 k5 k6 k7 k8 k9 k10 k11 k12 k13 k14 k15 k16 k17 k18 k19 k20 k21 k22 k23 k24
 obtain ⟨W1, hW1⟩ : ∃ W1, (((w.alloc (.cells (w4 zb) 24)).alloc (.cells (w4 za) 24)).alloc (.cells z4 24)) = W1 := ⟨_, rfl⟩
 rw [hW1] at LB LA LR Q HT ⊢
 clear hW1
 obtain ⟨k25, k26, k27, k28⟩ := e4 LB
 obtain ⟨k29, k30, k31, k32⟩ := e4 LA
 obtain ⟨k33, k34, k35, k36⟩ := e4 LR
 have hmx : Tryz.prog.follows .mixedOrders = true := by kernel_rfl
 refine wp_region_mix (C := Grows W1) [some true, some true, some true, some true, some true, none] hmx (by kernel_rfl) (by kernel_rfl) (grows_refl W1) ?_
 simp only [headOf, tailOf]
 repeat (go_big_quiet_step (first | (with_reducible exact Ret.at Hh1.out _) | (with_reducible exact RetT.at Hh2.out HT _)))
 refine wpQuiet_nil ?_
 rintro _ ⟨x37, rfl⟩
 clear k25 k26 k27 k28 k29 k30 k31 k32 k33 k34 k35 k36
 have LR := LR.later x37.below
 have Q := Q.trans (x37.below.mono Q.size)
 obtain ⟨r0, r1, r2, r3⟩ := c4 LR
 obtain ⟨z0, z1, z2, z3⟩ := f4 LR
 have HR := hid ((s4 LR z))
 have HQ := hid ((q4 (w.heap.size + 1 + 1) Q (by omega) z))
 clear Q LB LA LR
 go_wp2
 rw [calmPost_normal]
 go_wp2
 refine bodyPost_ret (results_word (m := z) rfl rfl HR.out) rfl ⟨rfl, HQ.out⟩
theorem pow_far (a b : Nat) (ha : W256 a) (h : 256 ≤ b) : wmod (a * 2 ^ b) = 0 ∧ a / 2 ^ b = 0 := by
 have e : (2 : Nat) ^ 256 = 115792089237316195423570985008687907853269984665640564039457584007913129639936 := by decide
 constructor
 ·obtain ⟨k, rfl⟩ : ∃ k, b = 256 + k := ⟨b - 256, by omega⟩
  unfold wmod
  rw [Nat.pow_add, e, ← Nat.mul_assoc, Nat.mul_right_comm]
  exact Nat.mul_mod_left _ _
 ·refine Nat.div_eq_of_lt (Nat.lt_of_lt_of_le ?_ (Nat.pow_le_pow_right (by omega) h))
  exact (w256_pow a).1 ha
theorem shl_ret (b a : Nat) (hb : W256 b) (ha : W256 a) : RetT Tryz.prog 126 #[wv b, wv a] (wv (wmod (a * 2 ^ b))) := by
 have h := moved_ret a (distN b : Int) ha (by have := distN_le b; omega)
 have e : mvN a (distN b : Int) = wmod (a * 2 ^ b) := by
  rw [mvN_up a _ ha]
  unfold distN maxI
  split
  ·rfl
  ·rw [(pow_far a 256 ha (by omega)).1, (pow_far a b ha (by omega)).1]
 rw [e] at h
 exact shl_walk (lim b) (lim a) (lim _) _ (dist_ret b hb) h
theorem shr_ret (b a : Nat) (hb : W256 b) (ha : W256 a) : RetT Tryz.prog 127 #[wv b, wv a] (wv (a / 2 ^ b)) := by
 have hl := distN_le b
 have h := moved_ret a (-(distN b : Int)) ha (by omega)
 have e : mvN a (-(distN b : Int)) = a / 2 ^ b := by
  rw [mvN_down a _ ha]
  unfold distN maxI
  split
  ·rfl
  ·rw [(pow_far a 256 ha (by omega)).2, (pow_far a b ha (by omega)).2]
 rw [e] at h
 exact shr_walk (lim b) (lim a) (lim _) _ (by omega) (dist_ret b hb) h
theorem less_walk (za zb zx zy : Nat → Int) (c : Int) (h1 : Ret Tryz.prog 124 #[.agg #[.int .u64 (za 0), .int .u64 (za 1), .int .u64 (za 2), .int .u64 (za 3)], .agg #[.int .u64 0, .int .u64 0, .int .u64 0, .int .u64 9223372036854775808]] (.agg #[.int .u64 (zx 0), .int .u64 (zx 1), .int .u64 (zx 2), .int .u64 (zx 3)])) (h2 : Ret Tryz.prog 124 #[.agg #[.int .u64 (zb 0), .int .u64 (zb 1), .int .u64 (zb 2), .int .u64 (zb 3)], .agg #[.int .u64 0, .int .u64 0, .int .u64 0, .int .u64 9223372036854775808]] (.agg #[.int .u64 (zy 0), .int .u64 (zy 1), .int .u64 (zy 2), .int .u64 (zy 3)])) (h3 : Ret Tryz.prog 148 #[.agg #[.int .u64 (zx 0), .int .u64 (zx 1), .int .u64 (zx 2), .int .u64 (zx 3)], .agg #[.int .u64 (zy 0), .int .u64 (zy 1), .int .u64 (zy 2), .int .u64 (zy 3)]] (.int .i64 c)) :
  Ret Tryz.prog 121 #[.agg #[.int .u64 (za 0), .int .u64 (za 1), .int .u64 (za 2), .int .u64 (za 3)], .agg #[.int .u64 (zb 0), .int .u64 (zb 1), .int .u64 (zb 2), .int .u64 (zb 3)]] (.bool (decide (c < 0))) := by
 intro w
 have Hh1 := hid h1
 have Hh2 := hid h2
 have Hh3 := hid h3
 clear h1 h2 h3
 go_enter Tryz.func121, Tryz.ntmps121
 have LA := Has.new w 24 (w4 za)
 obtain ⟨k1, k2, k3, k4⟩ := c4 LA
 have LA := LA.alloc (.cells (w4 zb) 24)
 have LB := Has.new (w.alloc (.cells (w4 za) 24)) 24 (w4 zb)
 simp only [World.size_alloc] at LB
 obtain ⟨k5, k6, k7, k8⟩ := c4 LA
 obtain ⟨k9, k10, k11, k12⟩ := c4 LB
 have LA := LA.alloc (.cells #[.int .u64 0, .int .u64 0, .int .u64 0, .int .u64 9223372036854775808] 24)
 have LB := LB.alloc (.cells #[.int .u64 0, .int .u64 0, .int .u64 0, .int .u64 9223372036854775808] 24)
 have LS := Has.new ((w.alloc (.cells (w4 za) 24)).alloc (.cells (w4 zb) 24)) 24 #[.int .u64 0, .int .u64 0, .int .u64 0, .int .u64 9223372036854775808]
 simp only [World.size_alloc] at LS
 obtain ⟨k13, k14, k15, k16⟩ := c4 LA
 obtain ⟨k17, k18, k19, k20⟩ := c4 LB
 obtain ⟨k21, k22, k23, k24⟩ := c4 LS
 have Q := (Below.refl w.heap.size w)
 have Q := Q.alloc Q.size (.cells (w4 za) 24)
 have Q := Q.alloc Q.size (.cells (w4 zb) 24)
 have Q := Q.alloc Q.size (.cells #[.int .u64 0, .int .u64 0, .int .u64 0, .int .u64 9223372036854775808] 24)
 go_wp2_with fail
 clear k1 k2 k3 k4 k5 k6 k7 k8 k9 k10 k11 k12 k13 k14 k15 k16 k17 k18 k19 k20 k21 k22 k23 k24
 obtain ⟨W1, hW1⟩ : ∃ W1, (((w.alloc (.cells (w4 za) 24)).alloc (.cells (w4 zb) 24)).alloc (.cells #[.int .u64 0, .int .u64 0, .int .u64 0, .int .u64 9223372036854775808] 24)) = W1 := ⟨_, rfl⟩
 rw [hW1] at LA LB LS Q ⊢
 clear hW1
 obtain ⟨k25, k26, k27, k28⟩ := e4 LA
 obtain ⟨k29, k30, k31, k32⟩ := e4 LB
 obtain ⟨k33, k34, k35, k36⟩ := e4 LS
 clear LA LB LS
 have HQ := hid Q
 clear Q
 try simp only [List.append]
 refine wp_region_quick (C := Grows W1) (by kernel_rfl) (by kernel_rfl) (by kernel_rfl) (grows_refl W1) ?_
 repeat (go_big_quiet_step (first | (with_reducible exact Ret.at Hh1.out _) | (with_reducible exact Ret.at Hh2.out _) | (with_reducible exact Ret.at Hh3.out _)))
 refine wpQuiet_nil ?_
 rintro _ ⟨x, rfl⟩
 go_wp2
 go_ret
 exact ⟨rfl, HQ.out.trans (x.below.mono HQ.out.size)⟩
def S1 : Nat := 57896044618658097711785492504343953926634992332820282019728792003956564819968
theorem S1_lt : W256 S1 := by unfold W256 S1; omega
theorem wv_S1 : wv S1 = .agg #[.int .u64 0, .int .u64 0, .int .u64 0, .int .u64 9223372036854775808] := wv_of ⟨by decide, by decide, by decide, by decide⟩
def lessN (a b : Nat) : Bool := decide (wcmp (a ^^^ S1) (b ^^^ S1) < 0)
theorem less_ret (a b : Nat) (ha : W256 a) (hb : W256 b) : Ret Tryz.prog 121 #[wv a, wv b] (.bool (lessN a b)) := by
 have h1 := xor_ret a S1 ha S1_lt
 have h2 := xor_ret b S1 hb S1_lt
 have h3 := cmp_ret _ _ (xor_lt a S1 ha S1_lt) (xor_lt b S1 hb S1_lt)
 rw [wv_S1] at h1 h2
 exact less_walk (lim a) (lim b) (lim _) (lim _) _ h1 h2 h3
theorem sar_neg (zb za zn zs z : Nat → Int) (h1 : Ret Tryz.prog 121 #[.agg #[.int .u64 (za 0), .int .u64 (za 1), .int .u64 (za 2), .int .u64 (za 3)], .agg #[.int .u64 0, .int .u64 0, .int .u64 0, .int .u64 0]] (.bool true)) (h2 : Ret Tryz.prog 107 #[.agg #[.int .u64 (za 0), .int .u64 (za 1), .int .u64 (za 2), .int .u64 (za 3)]] (.agg #[.int .u64 (zn 0), .int .u64 (zn 1), .int .u64 (zn 2), .int .u64 (zn 3)])) (h3 : RetT Tryz.prog 127 #[.agg #[.int .u64 (zb 0), .int .u64 (zb 1), .int .u64 (zb 2), .int .u64 (zb 3)], .agg #[.int .u64 (zn 0), .int .u64 (zn 1), .int .u64 (zn 2), .int .u64 (zn 3)]] (.agg #[.int .u64 (zs 0), .int .u64 (zs 1), .int .u64 (zs 2), .int .u64 (zs 3)])) (h4 : Ret Tryz.prog 107 #[.agg #[.int .u64 (zs 0), .int .u64 (zs 1), .int .u64 (zs 2), .int .u64 (zs 3)]] (.agg #[.int .u64 (z 0), .int .u64 (z 1), .int .u64 (z 2), .int .u64 (z 3)])) :
  RetT Tryz.prog 128 #[.agg #[.int .u64 (zb 0), .int .u64 (zb 1), .int .u64 (zb 2), .int .u64 (zb 3)], .agg #[.int .u64 (za 0), .int .u64 (za 1), .int .u64 (za 2), .int .u64 (za 3)]] (.agg #[.int .u64 (z 0), .int .u64 (z 1), .int .u64 (z 2), .int .u64 (z 3)]) := by
 intro w HT
 have Hh1 := hid h1
 have Hh2 := hid h2
 have Hh3 := hid h3
 have Hh4 := hid h4
 clear h1 h2 h3 h4
 go_enter Tryz.func128, Tryz.ntmps128
 have LB := Has.new w 24 (w4 zb)
 obtain ⟨k1, k2, k3, k4⟩ := c4 LB
 have LB := LB.alloc (.cells (w4 za) 24)
 have LA := Has.new (w.alloc (.cells (w4 zb) 24)) 24 (w4 za)
 simp only [World.size_alloc] at LA
 obtain ⟨k5, k6, k7, k8⟩ := c4 LB
 obtain ⟨k9, k10, k11, k12⟩ := c4 LA
 have LB := LB.alloc (.cells z4 24)
 have LA := LA.alloc (.cells z4 24)
 have LR := Has.new ((w.alloc (.cells (w4 zb) 24)).alloc (.cells (w4 za) 24)) 24 z4
 simp only [World.size_alloc] at LR
 obtain ⟨k13, k14, k15, k16⟩ := c4 LB
 obtain ⟨k17, k18, k19, k20⟩ := c4 LA
 obtain ⟨k21, k22, k23, k24⟩ := c4 LR
 have Q := (Below.refl w.heap.size w)
 have Q := Q.alloc Q.size (.cells (w4 zb) 24)
 have HT := HT.alloc (.cells (w4 zb) 24)
 have Q := Q.alloc Q.size (.cells (w4 za) 24)
 have HT := HT.alloc (.cells (w4 za) 24)
 have Q := Q.alloc Q.size (.cells z4 24)
 have HT := HT.alloc (.cells z4 24)
 go_wp2_with fail
 clear k1 k2 k3 k4 k5 k6 k7 k8 k9 k10 k11 k12 k13 k14 k15 k16 k17 k18 k19 k20 k21 k22 k23 k24
 obtain ⟨W1, hW1⟩ : ∃ W1, (((w.alloc (.cells (w4 zb) 24)).alloc (.cells (w4 za) 24)).alloc (.cells z4 24)) = W1 := ⟨_, rfl⟩
 rw [hW1] at LB LA LR Q HT ⊢
 clear hW1
 refine (Hh1.out _).mono ?_
 rintro e v25 ⟨rfl, q⟩
 have HT := HT.later q
 have LB := LB.later q
 have LA := LA.later q
 have LR := LR.later q
 have Q := Q.trans (q.mono Q.size)
 clear q
 obtain ⟨k26, k27, k28, k29⟩ := c4 LB
 obtain ⟨k30, k31, k32, k33⟩ := c4 LA
 obtain ⟨k34, k35, k36, k37⟩ := c4 LR
 go_wp2_with fail
 clear k26 k27 k28 k29 k30 k31 k32 k33 k34 k35 k36 k37
 obtain ⟨k38, k39, k40, k41⟩ := e4 LB
 obtain ⟨k42, k43, k44, k45⟩ := e4 LA
 obtain ⟨k46, k47, k48, k49⟩ := e4 LR
 have hmx : Tryz.prog.follows .mixedOrders = true := by kernel_rfl
 refine wp_region_mix (C := Grows v25) [some true, some true, some true, some true, some true, none] hmx (by kernel_rfl) (by kernel_rfl) (grows_refl v25) ?_
 simp only [headOf, tailOf]
 repeat (go_big_quiet_step (first | (with_reducible exact Ret.at Hh2.out _) | (with_reducible exact RetT.at Hh3.out HT _) | (with_reducible exact Ret.at Hh4.out _)))
 refine wpQuiet_nil ?_
 rintro _ ⟨x50, rfl⟩
 clear k38 k39 k40 k41 k42 k43 k44 k45 k46 k47 k48 k49
 have LR := LR.later x50.below
 have Q := Q.trans (x50.below.mono Q.size)
 obtain ⟨r0, r1, r2, r3⟩ := c4 LR
 obtain ⟨z0, z1, z2, z3⟩ := f4 LR
 have HR := hid ((s4 LR z))
 have HQ := hid ((q4 (w.heap.size + 1 + 1) Q (by omega) z))
 clear Q LB LA LR
 go_wp2
 rw [calmPost_normal]
 go_wp2
 refine bodyPost_ret (results_word (m := z) rfl rfl HR.out) rfl ⟨rfl, HQ.out⟩
theorem sar_pos (zb za z : Nat → Int) (h1 : Ret Tryz.prog 121 #[.agg #[.int .u64 (za 0), .int .u64 (za 1), .int .u64 (za 2), .int .u64 (za 3)], .agg #[.int .u64 0, .int .u64 0, .int .u64 0, .int .u64 0]] (.bool false)) (h2 : RetT Tryz.prog 127 #[.agg #[.int .u64 (zb 0), .int .u64 (zb 1), .int .u64 (zb 2), .int .u64 (zb 3)], .agg #[.int .u64 (za 0), .int .u64 (za 1), .int .u64 (za 2), .int .u64 (za 3)]] (.agg #[.int .u64 (z 0), .int .u64 (z 1), .int .u64 (z 2), .int .u64 (z 3)])) :
  RetT Tryz.prog 128 #[.agg #[.int .u64 (zb 0), .int .u64 (zb 1), .int .u64 (zb 2), .int .u64 (zb 3)], .agg #[.int .u64 (za 0), .int .u64 (za 1), .int .u64 (za 2), .int .u64 (za 3)]] (.agg #[.int .u64 (z 0), .int .u64 (z 1), .int .u64 (z 2), .int .u64 (z 3)]) := by
 intro w HT
 have Hh1 := hid h1
 have Hh2 := hid h2
 clear h1 h2
 go_enter Tryz.func128, Tryz.ntmps128
 have LB := Has.new w 24 (w4 zb)
 obtain ⟨k1, k2, k3, k4⟩ := c4 LB
 have LB := LB.alloc (.cells (w4 za) 24)
 have LA := Has.new (w.alloc (.cells (w4 zb) 24)) 24 (w4 za)
 simp only [World.size_alloc] at LA
 obtain ⟨k5, k6, k7, k8⟩ := c4 LB
 obtain ⟨k9, k10, k11, k12⟩ := c4 LA
 have LB := LB.alloc (.cells z4 24)
 have LA := LA.alloc (.cells z4 24)
 have LR := Has.new ((w.alloc (.cells (w4 zb) 24)).alloc (.cells (w4 za) 24)) 24 z4
 simp only [World.size_alloc] at LR
 obtain ⟨k13, k14, k15, k16⟩ := c4 LB
 obtain ⟨k17, k18, k19, k20⟩ := c4 LA
 obtain ⟨k21, k22, k23, k24⟩ := c4 LR
 have Q := (Below.refl w.heap.size w)
 have Q := Q.alloc Q.size (.cells (w4 zb) 24)
 have HT := HT.alloc (.cells (w4 zb) 24)
 have Q := Q.alloc Q.size (.cells (w4 za) 24)
 have HT := HT.alloc (.cells (w4 za) 24)
 have Q := Q.alloc Q.size (.cells z4 24)
 have HT := HT.alloc (.cells z4 24)
 go_wp2_with fail
 clear k1 k2 k3 k4 k5 k6 k7 k8 k9 k10 k11 k12 k13 k14 k15 k16 k17 k18 k19 k20 k21 k22 k23 k24
 obtain ⟨W1, hW1⟩ : ∃ W1, (((w.alloc (.cells (w4 zb) 24)).alloc (.cells (w4 za) 24)).alloc (.cells z4 24)) = W1 := ⟨_, rfl⟩
 rw [hW1] at LB LA LR Q HT ⊢
 clear hW1
 refine (Hh1.out _).mono ?_
 rintro e v25 ⟨rfl, q⟩
 have HT := HT.later q
 have LB := LB.later q
 have LA := LA.later q
 have LR := LR.later q
 have Q := Q.trans (q.mono Q.size)
 clear q
 obtain ⟨k26, k27, k28, k29⟩ := c4 LB
 obtain ⟨k30, k31, k32, k33⟩ := c4 LA
 obtain ⟨k34, k35, k36, k37⟩ := c4 LR
 go_wp2_with fail
 clear k26 k27 k28 k29 k30 k31 k32 k33 k34 k35 k36 k37
 refine (Hh2.out _ HT).mono ?_
 rintro e v38 ⟨rfl, q⟩
 have HT := HT.later q
 have LB := LB.later q
 have LA := LA.later q
 have LR := LR.later q
 have Q := Q.trans (q.mono Q.size)
 clear q
 obtain ⟨r0, r1, r2, r3⟩ := c4 LR
 obtain ⟨z0, z1, z2, z3⟩ := f4 LR
 obtain ⟨k39, k40, k41, k42⟩ := c4 LB
 obtain ⟨k43, k44, k45, k46⟩ := c4 LA
 have HR := hid ((s4 LR z))
 have HQ := hid ((q4 (w.heap.size + 1 + 1) Q (by omega) z))
 clear Q LB LA LR
 go_wp2
 refine bodyPost_ret (results_word (m := z) rfl rfl HR.out) rfl ⟨rfl, HQ.out⟩
def sarN (b a : Nat) : Nat := if lessN a 0 = true then ((a ^^^ M1) / 2 ^ b) ^^^ M1 else a / 2 ^ b
theorem div_lt (a k : Nat) (ha : W256 a) : W256 (a / k) := Nat.lt_of_le_of_lt (Nat.div_le_self a k) ha
theorem sarN_lt (b a : Nat) (ha : W256 a) : W256 (sarN b a) := by
 unfold sarN
 split
 ·exact xor_lt _ _ (div_lt _ _ (xor_lt _ _ ha M1_lt)) M1_lt
 ·exact div_lt _ _ ha
theorem wv_0 : wv 0 = .agg #[.int .u64 0, .int .u64 0, .int .u64 0, .int .u64 0] := wv_of ⟨by decide, by decide, by decide, by decide⟩
theorem sar_ret (b a : Nat) (hb : W256 b) (ha : W256 a) : RetT Tryz.prog 128 #[wv b, wv a] (wv (sarN b a)) := by
 have h1 := less_ret a 0 ha (by unfold W256; omega)
 rw [wv_0] at h1
 unfold sarN
 cases h : lessN a 0 with
 | true =>
  rw [h] at h1
  rw [if_pos rfl]
  exact sar_neg (lim b) (lim a) (lim _) (lim _) (lim _) h1 (not_ret a ha) (shr_ret b _ hb (xor_lt _ _ ha M1_lt)) (not_ret _ (div_lt _ _ (xor_lt _ _ ha M1_lt)))
 | false =>
  rw [h] at h1
  rw [if_neg (by simp)]
  exact sar_pos (lim b) (lim a) (lim _) h1 (shr_ret b a hb ha)
def pickN (c m : Int) : Int := (if c < 0 then -(c + 1) else c) % m
theorem pickN_range (c m : Int) (hm : 0 < m) : 0 ≤ pickN c m ∧ pickN c m < m := by
 unfold pickN
 exact ⟨Int.emod_nonneg _ (by omega), Int.emod_lt_of_pos _ hm⟩
theorem ofN_nat (n : Nat) : ofN (n : Int) = n := by unfold ofN; rw [if_neg (by omega)]; omega
end
end Go.Proofs.YtnkhmgmganejmaaGreatDoor
