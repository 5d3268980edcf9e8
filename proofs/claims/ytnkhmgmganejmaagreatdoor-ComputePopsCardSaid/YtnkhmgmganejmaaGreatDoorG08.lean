/- Part. -/
import Derived.Test.YtnkhmgmganejmaaGreatDoorG07
import Derived.Test.YtnkhmgmganejmaaGreatDoorG04
import Derived.Test.YtnkhmgmganejmaaGreatDoorG03
set_option maxRecDepth 100000
set_option maxHeartbeats 16000000
namespace Go.Proofs.YtnkhmgmganejmaaGreatDoor
section
open Go Go.RowKit Go.Shelf
attribute [local go_sem] Oper.semAt_some wide_fn Grows
theorem drop_cons {L : List Nat} {k x : Nat} {r : List Nat} (h : L.drop k = x :: r) : k < L.length ∧ L.getD k 0 = x ∧ L.drop (k + 1) = r := by
 have hk : k < L.length := by
  rcases Nat.lt_or_ge k L.length with h' | h'
  ·exact h'
  ·rw [List.drop_eq_nil_of_le h'] at h; cases h
 rw [List.drop_eq_getElem_cons hk] at h
 injection h with h1 h2
 exact ⟨hk, by rw [List.getD_eq_getElem?_getD, List.getElem?_eq_getElem hk]; exact h1, h2⟩
theorem KeepsAt.lt {L : List Nat} {W W' : World} (h : KeepsAt L W W') {b : Nat} (hb : b ∈ L) (hl : b < W.heap.size) : b < W'.heap.size := by
 have := h b hb
 rw [Array.getElem?_eq_getElem hl] at this
 exact (Array.getElem?_eq_some_iff.1 this).1
theorem ones_seq (n : Nat) (hn : 1 ≤ n) (Bs b : Nat) (a : Nat) (w : World) (hBs : Bs < w.heap.size) (hb : b < w.heap.size) (hT : Tab w)
  (hcB : w.cell? ⟨Bs, 0, none⟩ = some (.pointer (some ⟨b, 0, none⟩))) (hc : ∀ j, j < 4 → w.cell? ⟨b, j, none⟩ = some (.int .u64 (lim a j))) :
  SeqN Fence.wide n Tryz.prog 180 #[.pointer (some ⟨Bs, 0, none⟩)] (fun k => #[.int .i64 (((allOnes a).getD k 0 : Nat) : Int)]) (KeepsAt [b, Bs, 0]) (allOnes a).length w := by
 intro l J Jx W hW hJA _ hY h0
 have hBs' := (hW.cell (p := ⟨Bs, 0, none⟩) hBs).trans hcB
 have hc' : ∀ j, j < 4 → W.cell? ⟨b, j, none⟩ = some (.int .u64 (lim a j)) := fun j hj => (hW.cell (p := ⟨b, j, none⟩) hb).trans (hc j hj)
 have hT' : Tab W := hT.later hW
 have hbW : b < W.heap.size := Nat.lt_of_lt_of_le hb hW.size
 have hBW : Bs < W.heap.size := Nat.lt_of_lt_of_le hBs hW.size
 clear hcB hc hT hW
 have HL := hid hc'
 have HT := hid hT'
 have HA := hid hJA
 have HY := hid hY
 clear hc' hT' hJA hY
 have hmx : Tryz.prog.follows .mixedOrders = true := by kernel_rfl
 refine callsIn_of_wp Tryz.func180 rfl trivial ?_ rfl
 simp only [Tryz.ntmps180, List.size_toArray, List.length_cons, List.length_nil, Nat.reduceAdd, Nat.reduceSub, Array.replicate_succ, Array.replicate_zero, List.push_toArray, List.append_toArray, List.nil_append, List.cons_append]
 gi_wp2
 gi_loopw [6] (fun i wr => ∃ k q : Nat, i = .int .i64 (q : Int) ∧ q ≤ 4 ∧ Hid (k ≤ (allOnes a).length ∧ (allOnes a).drop k = restF a (4 - q) q ∧ J k wr ∧ KeepsAt [b, Bs, 0] W wr))
  (fun i _ => 4 - (intOf i).toNat)
 case atStart => exact ⟨0, 0, rfl, by omega, ⟨Nat.zero_le _, rfl, h0, KeepsAt.refl _ _⟩⟩
 case round =>
  obtain ⟨k, q, rfl, hq4, hH⟩ := hrel
  by_cases hlt : q < 4
  ·have hqI : (q : Int) < 4 := by omega
   have hq0 : (0 : Int) ≤ (q : Int) := by omega
   obtain ⟨hk, hd, hJs, hnx⟩ := hH.out
   have kc : ∀ x : Ext wr, x.w.cell? ⟨b, q, none⟩ = some (.int .u64 (lim a q)) := fun x => (x.cell (p := ⟨b, q, none⟩) (hnx.lt (by simp) hbW)).trans ((hnx.cell (p := ⟨b, q, none⟩) (by simp)).trans (HL.out q hlt))
   have HD := hid hd
   have HK := hid hk
   have HJ := hid hJs
   have HN := hid hnx
   have HQ := hid hlt
   clear hH hk hd hJs hnx hlt
   gi_wp2_with fail
   refine wpIn_region_quick (C := Grows wr) free_wide hmx (by kernel_rfl) (by kernel_rfl) (grows_refl wr) ?_
   repeat (go_big_quiet_step (fail))
   refine wpQuiet_nil ?_
   rintro _ ⟨x, rfl⟩
   have HJ := hid (HA.out k wr x.w none HJ.out (grown_of_below x.below none) (fun r e => by cases e))
   have HN := hid (HN.out.below x.below (fun b' hb' => HN.out.lt hb' (by simp at hb'; have := HT.out.lt; omega)))
   generalize x.w = wx at *
   clear x
   gi_wp2_with fail
   gi_loopw [4] (fun p wr => ∃ k m : Nat, p = .int .u64 (m : Int) ∧ Hid (m < 18446744073709551616 ∧ k ≤ (allOnes a).length ∧ (allOnes a).drop k = (onesL m).map (64 * q + ·) ++ restF a (4 - (q + 1)) (q + 1) ∧ J k wr ∧ KeepsAt [b, Bs, 0] W wr))
    (fun p _ => (intOf p).toNat)
   case atStart => 
    refine ⟨k, ln a q, by rw [lim_ln a q HQ.out], ⟨ln_lt a q, HK.out, ?_, HJ.out, HN.out⟩⟩
    rw [HD.out, show 4 - q = 4 - (q + 1) + 1 by have := HQ.out; omega]
    rfl
   case round =>
    obtain ⟨k', m, rfl, hH⟩ := hrel
    clear HK HD HJ HN
    by_cases hm : m = 0
    ·subst hm
     have HQ2 := hid HQ.out
     gi_wp2
     go_roundw
     case rel =>
      obtain ⟨_, hk, hd, hJs, hnx⟩ := hH.out
      rw [onesL_zero] at hd
      exact ⟨k', q + 1, by simp, HQ2.out, ⟨hk, hd, hJs, hnx⟩⟩
     case measure => have := HQ2.out; simp [intOf]; omega
    ·obtain ⟨hm64, hk, hd, hJs, hnx⟩ := hH.out
     rw [onesL_succ m hm] at hd
     simp only [List.map_cons, List.cons_append] at hd
     obtain ⟨hkl, hg, hd'⟩ := drop_cons hd
     obtain ⟨fn, tmps, assign, body, hy, hR⟩ := HY.out k' wr hkl hJs
     have hv : ((((allOnes a).getD k' 0 : Nat)) : Int) = (q : Int) * 64 + (tz m : Int) := by rw [hg]; omega
     rw [hv] at hy
     have hTr : Tab wr := ⟨hnx.lt (by simp) HT.out.lt, fun i hi => (hnx.cell (p := ⟨0, i, none⟩) (by simp)).trans (HT.out.cell i hi)⟩
     have HC := hid (tz_calls m hm hm64 wr hTr)
     have hba : bits .and .u64 (m : Int) ((m : Int) - 1) = (clr m : Int) := by
      have := bits_and_u64_nat m (m - 1) hm64 (by omega)
      rw [and_pred m hm hm64] at this
      rw [← this]
      congr 1
      omega
     have hm1 : (1 : Int) ≤ (m : Int) := by omega
     have hm0 : (m : Int) ≠ 0 := by omega
     have hsub : IntKind.u64.wrap ((m : Int) - 1) = (m : Int) - 1 := by rw [IntKind.wrap_u64]; omega
     have htz : (tz m : Int) < 64 := by obtain ⟨_, _, h⟩ := tz_split m hm hm64; omega
     have HM := hid hm
     have HM6 := hid hm64
     have HK := hid hkl
     have HD := hid hd'
     have HN := hid hnx
     generalize tz m = t at *
     clear hH hd hg hd' hk hJs hnx hv hTr hm hm64 hkl
     gi_wp2_with fail
     refine (callsIn_free free_wide HC.out).mono ?_
     rintro e w' ⟨rfl, rfl⟩
     gi_wp2
     refine hR.mono ?_
     rintro e W3 (⟨rfl, hJ3, hk3⟩ | ⟨rfl, hJx3⟩)
     ·gi_wp2
      go_roundw
      case rel => exact ⟨k' + 1, clr m, rfl, ⟨by have := clr_lt m HM.out; have := HM6.out; omega, HK.out, HD.out, hJ3, HN.out.trans hk3⟩⟩
      case measure => have := clr_lt m HM.out; simp [intOf]; omega
     ·gi_wp2
      refine bodyPost_ret (results_none rfl _ _ _) rfl ?_
      exact ⟨⟨_, rfl⟩, .inr ⟨k', HK.out, hJx3⟩⟩
  ·obtain rfl : q = 4 := by omega
   obtain ⟨hk, hd, hJs, hnx⟩ := hH.out
   have hk2 : k = (allOnes a).length := by
    have h1 : (allOnes a).drop k = [] := hd
    have := List.drop_eq_nil_iff.1 h1
    omega
   have HJ : Hid (J (allOnes a).length wr) := by rw [← hk2]; exact hJs
   clear hH hJs hk hd hk2 hnx
   gi_wp2
   go_end0
   exact ⟨⟨_, rfl⟩, .inl HJ.out⟩
end
section
open Go Go.RowKit
theorem ln_pow (t j : Nat) (_ht : t < 256) : ln (2 ^ t) j = if j = t / 64 then 2 ^ (t % 64) else 0 := by
 refine Nat.eq_of_testBit_eq fun i => ?_
 rw [ln_bit, Nat.testBit_two_pow]
 split
 ·rename_i h
  rw [Nat.testBit_two_pow, ← Bool.decide_and]
  exact decide_eq_decide.2 (by omega)
 ·rename_i h
  rw [Nat.zero_testBit, ← Bool.decide_and]
  exact decide_eq_false (by omega)
theorem wrap_pow (r : Nat) (hr : r < 64) : IntKind.u64.wrap (2 ^ r) = ((2 ^ r : Nat) : Int) := by
 have : 2 ^ r < 2 ^ 64 := Nat.pow_lt_pow_right (by omega) hr
 have e : (2 : Int) ^ r = ((2 ^ r : Nat) : Int) := by simp
 rw [e, IntKind.wrap_u64]
 generalize 2 ^ r = x at *
 omega
theorem lim_put (m t : Nat) (ht : t < 256) : bits .or .u64 (lim m (t / 64)) (IntKind.u64.wrap (2 ^ (t % 64))) = lim (m ||| 2 ^ t) (t / 64) ∧ ∀ j, j < 4 → j ≠ t / 64 → lim (m ||| 2 ^ t) j = lim m j := by
 constructor
 ·have := bits_or_lim m (2 ^ t) (t / 64) (by omega)
  rw [lim_ln (2 ^ t) _ (by omega), ln_pow t _ ht, if_pos rfl] at this
  rw [wrap_pow _ (by omega)]
  exact this
 ·intro j hj hne
  rw [lim_ln _ _ hj, lim_ln _ _ hj, ln_or, ln_pow t j ht, if_neg hne, Nat.or_zero]
def putB (up : Int) (m p : Nat) : Nat := if 0 ≤ (p : Int) + up ∧ (p : Int) + up < 256 then m ||| 2 ^ ((p : Int) + up).toNat else m
def mvL (up : Int) (l : List Nat) : Nat := l.foldl (putB up) 0
theorem mvL_take (up : Int) (L : List Nat) (k : Nat) (hk : k < L.length) : mvL up (L.take (k + 1)) = putB up (mvL up (L.take k)) (L.getD k 0) := by
 unfold mvL
 rw [List.take_add_one, List.foldl_append, List.getElem?_eq_getElem hk, List.getD_eq_getElem?_getD, List.getElem?_eq_getElem hk]
 rfl
theorem putB_lt (up : Int) (m p : Nat) (hm : W256 m) : W256 (putB up m p) := by
 unfold putB
 split
 ·rename_i h
  exact or_lt _ _ hm ((w256_pow _).2 (Nat.pow_lt_pow_right (by omega) (by omega)))
 ·exact hm
theorem foldB_lt (up : Int) : ∀ (l : List Nat) (m : Nat), W256 m → W256 (l.foldl (putB up) m)
 | [], _, h => h
 | p :: l, m, h => foldB_lt up l _ (putB_lt up m p h)
theorem foldB_bit (up : Int) (i : Nat) : ∀ (l : List Nat) (m : Nat), (l.foldl (putB up) m).testBit i = true ↔ (m.testBit i = true ∨ ∃ p ∈ l, (p : Int) + up = i ∧ i < 256)
 | [], m => by simp
 | p :: l, m => by
  rw [List.foldl_cons, foldB_bit up i l]
  unfold putB
  constructor
  ·rintro (h | ⟨q, hq, h⟩)
   ·split at h
    ·rename_i hr
     rw [Nat.testBit_or, Bool.or_eq_true, Nat.testBit_two_pow, decide_eq_true_eq] at h
     rcases h with h | h
     ·exact .inl h
     ·exact .inr ⟨p, by simp, by omega, by omega⟩
    ·exact .inl h
   ·exact .inr ⟨q, by simp [hq], h⟩
  ·rintro (h | ⟨q, hq, h1, h2⟩)
   ·refine .inl ?_
    split
    ·rw [Nat.testBit_or, h]; rfl
    ·exact h
   ·rcases List.mem_cons.1 hq with rfl | hq
    ·refine .inl ?_
     rw [if_pos (by omega), Nat.testBit_or, Nat.testBit_two_pow, decide_eq_true (show ((q : Int) + up).toNat = i by omega)]
     simp
    ·exact .inr ⟨q, hq, h1, h2⟩
def mvN (a : Nat) (up : Int) : Nat := mvL up (allOnes a)
theorem mvN_bit (a : Nat) (up : Int) (ha : W256 a) (i : Nat) : (mvN a up).testBit i = true ↔ (i < 256 ∧ ∃ p : Nat, a.testBit p = true ∧ (p : Int) + up = i) := by
 unfold mvN mvL
 rw [foldB_bit, Nat.zero_testBit]
 simp only [Bool.false_eq_true, false_or]
 constructor
 ·rintro ⟨p, hp, h1, h2⟩; exact ⟨h2, p, (allOnes_mem a ha p).1 hp, h1⟩
 ·rintro ⟨h2, p, hp, h1⟩; exact ⟨p, (allOnes_mem a ha p).2 hp, h1, h2⟩
theorem mvN_up (a n : Nat) (ha : W256 a) : mvN a (n : Int) = wmod (a * 2 ^ n) := by
 refine Nat.eq_of_testBit_eq fun i => Bool.eq_iff_iff.2 ?_
 rw [mvN_bit a _ ha]
 have e : wmod (a * 2 ^ n) = (a * 2 ^ n) % 2 ^ 256 := by unfold wmod; rw [show (2 : Nat) ^ 256 = 115792089237316195423570985008687907853269984665640564039457584007913129639936 by decide]
 rw [e, Nat.testBit_mod_two_pow, Nat.testBit_mul_two_pow, Bool.and_eq_true, Bool.and_eq_true, decide_eq_true_eq, decide_eq_true_eq]
 constructor
 ·rintro ⟨h1, p, hp, h2⟩
  exact ⟨h1, by omega, by rw [show i - n = p by omega]; exact hp⟩
 ·rintro ⟨h1, h2, h3⟩
  exact ⟨h1, i - n, h3, by omega⟩
theorem mvN_down (a n : Nat) (ha : W256 a) : mvN a (-(n : Int)) = a / 2 ^ n := by
 refine Nat.eq_of_testBit_eq fun i => Bool.eq_iff_iff.2 ?_
 rw [mvN_bit a _ ha, Nat.testBit_div_two_pow]
 constructor
 ·rintro ⟨h1, p, hp, h2⟩
  rw [show i + n = p by omega]; exact hp
 ·intro h
  refine ⟨?_, i + n, h, by omega⟩
  rcases Nat.lt_or_ge i 256 with h' | h'
  ·exact h'
  ·have : a.testBit (i + n) = false := Nat.testBit_lt_two_pow (Nat.lt_of_lt_of_le ((w256_pow a).1 ha) (Nat.pow_le_pow_right (by omega) (by omega)))
   rw [this] at h; cases h
def limC (m : Nat) : Array Value := #[.int .u64 (lim m 0), .int .u64 (lim m 1), .int .u64 (lim m 2), .int .u64 (lim m 3)]
theorem limC_get (m j : Nat) (hj : j < 4) : (limC m)[j]? = some (.int .u64 (lim m j)) := by
 rcases (show j = 0 ∨ j = 1 ∨ j = 2 ∨ j = 3 by omega) with rfl | rfl | rfl | rfl <;> rfl
theorem limC_set (m m' j : Nat) (hj : j < 4) (h : ∀ i, i < 4 → i ≠ j → lim m' i = lim m i) : (limC m).setIfInBounds j (.int .u64 (lim m' j)) = limC m' := by
 unfold limC
 rcases (show j = 0 ∨ j = 1 ∨ j = 2 ∨ j = 3 by omega) with rfl | rfl | rfl | rfl
 ·rw [h 1 (by omega) (by omega), h 2 (by omega) (by omega), h 3 (by omega) (by omega)]; rfl
 ·rw [h 0 (by omega) (by omega), h 2 (by omega) (by omega), h 3 (by omega) (by omega)]; rfl
 ·rw [h 0 (by omega) (by omega), h 1 (by omega) (by omega), h 3 (by omega) (by omega)]; rfl
 ·rw [h 0 (by omega) (by omega), h 1 (by omega) (by omega), h 2 (by omega) (by omega)]; rfl
theorem Has.grown {A X : World} {row : Option Nat} {B : Nat} {t : TypeId} {cs : Array Value} (h : Has A B t cs) (hg : A.grownBy X row) (hr : ∀ r, row = some r → ∃ o : Obj, A.heap[r]? = some o ∧ o.isCells = false) : Has X B t cs := by
 refine (hg.block B h.lt (fun e => ?_)).trans h
 obtain ⟨o, ho, hc⟩ := hr B e.symm
 unfold Has at h
 rw [h] at ho
 injection ho with ho
 rw [← ho] at hc
 cases hc
theorem Tab.grown {A X : World} {row : Option Nat} {n : Nat} (h : Tab A) (hg : A.grownBy X row) (hn : 0 < n) (hr : ∀ r, row = some r → n ≤ r) : Tab X := by
 have hb : X.heap[0]? = A.heap[0]? := hg.block 0 h.lt (fun e => by have := hr 0 e.symm; omega)
 exact ⟨Nat.lt_of_lt_of_le h.lt hg.size, fun i hi => (World.cell?_of_block (w := A) (w' := X) (a := ⟨0, i, none⟩) hb).trans (h.cell i hi)⟩
end
section
open Go Go.RowKit
attribute [local go_sem] Oper.semAt_some Grows wide_fn
def RetT (P : Program) (f : FuncId) (args : Array Value) (v : Value) : Prop := ∀ w, Tab w → Calls P f args w fun e w' => e = .returned v ∧ Below w.heap.size w w'
theorem Ret.toT {P : Program} {f : FuncId} {args : Array Value} {v : Value} (h : Ret P f args v) : RetT P f args v := fun w _ => h w
theorem RetT.at {P : Program} {f : FuncId} {args : Array Value} {v : Value} (h : RetT P f args v) {W : World} (hT : Tab W) (x : Ext W) :
  Calls P f args x.w fun e w'' => e = .returned v ∧ ∃ y : Ext W, w'' = y.w :=
 (h x.w (hT.later x.below)).mono fun _ w' ⟨he, hb⟩ => ⟨he, ⟨w', x.2.trans (hb.mono x.2.size)⟩, rfl⟩
theorem ones_any (p : Addr) (w : World) :
  Calls Tryz.prog 170 #[.pointer (some p)] w fun e w' => e = .returned (.func (.func 180) #[] #[.pointer (some ⟨w.heap.size, 0, none⟩)]) ∧ w' = w.alloc (.cells #[.pointer (some p)] 125) := by
 go_enter Tryz.func170, Tryz.ntmps170
 go_wp2
 go_ret
 exact ⟨rfl, rfl⟩
structure MovSt (w : World) (a : Nat) (up : Int) (m : Nat) (W : World) : Prop where
 A : Has W w.heap.size 24 (limC a)
 U : Has W (w.heap.size + 1) 3 #[.int .i64 up]
 R : Has W (w.heap.size + 1 + 1) 24 #[.int .u64 0, .int .u64 0, .int .u64 0, .int .u64 0]
 M : Has W (w.heap.size + 1 + 1 + 1) 24 (limC m)
 P : Has W (w.heap.size + 1 + 1 + 1 + 1) 125 #[.pointer (some ⟨w.heap.size, 0, none⟩)]
 T : Tab W
 Q : Below w.heap.size w W
theorem MovSt.own (w : World) (a : Nat) (up : Int) (B : Nat) (hB : 0 < w.heap.size ∧ w.heap.size ≤ B) (m : Nat → Nat) : OwnFrom B (fun (k : Nat) W => MovSt w a up (m k) W) := fun s A X row hs hg hr =>
 ⟨hs.A.grown hg (fun r e => (hr r e).2), hs.U.grown hg (fun r e => (hr r e).2), hs.R.grown hg (fun r e => (hr r e).2), hs.M.grown hg (fun r e => (hr r e).2), hs.P.grown hg (fun r e => (hr r e).2), hs.T.grown hg (by omega) (fun r e => (hr r e).1),
  ⟨hg.os.trans hs.Q.os, hg.tape.trans hs.Q.tape, hg.output.trans hs.Q.output, Nat.le_trans hs.Q.size hg.size, fun k hk => (hg.block k (Nat.lt_of_lt_of_le hk hs.Q.size) (fun e => by have := (hr k e.symm).1; omega)).trans (hs.Q.block k hk)⟩⟩
theorem MovSt.later {w : World} {a : Nat} {up : Int} {m : Nat} {W X : World} (h : MovSt w a up m W) (hb : Below W.heap.size W X) : MovSt w a up m X :=
 ⟨h.A.later hb, h.U.later hb, h.R.later hb, h.M.later hb, h.P.later hb, h.T.later hb, h.Q.trans (hb.mono h.Q.size)⟩
theorem MovSt.put {w : World} {a : Nat} {up : Int} {m m' : Nat} {W : World} (_hw : 0 < w.heap.size) (h : MovSt w a up m W) (j : Nat) (hj : j < 4) (hm : ∀ i, i < 4 → i ≠ j → lim m' i = lim m i) :
  MovSt w a up m' (W.setCell ⟨w.heap.size + 1 + 1 + 1, j, none⟩ (.int .u64 (lim m' j))) :=
 ⟨h.A.other (by simp; omega) _, h.U.other (by simp) _, h.R.other (by simp) _, by have := h.M.set j (.int .u64 (lim m' j)); rwa [limC_set m m' j hj hm] at this, h.P.other (by simp) _, h.T.other (by simp) _, h.Q.setCell (by simp; omega) _⟩
theorem moved_ret (a : Nat) (up : Int) (_ha : W256 a) (hup : -4611686018427387904 ≤ up ∧ up ≤ 4611686018427387904) : RetT Tryz.prog 154 #[wv a, .int .i64 up] (wv (mvN a up)) := by
 intro w hT
 have hw0 := hT.lt
 have hmx : Tryz.prog.follows .mixedOrders = true := by kernel_rfl
 unfold wv
 have h1 : 1 ≤ 8 := by omega
 refine (callsIn_wide (n := 8)).1 ?_
 refine callsIn_of_wp_marks Tryz.func154 rfl trivial ?_ rfl
 simp only [Tryz.ntmps154, List.size_toArray, List.length_cons, List.length_nil, Nat.reduceAdd, Nat.reduceSub, Array.replicate_succ, Array.replicate_zero, List.push_toArray, List.append_toArray, List.nil_append, List.cons_append]
 gi_wp2_with (gi_at_call 170; refine (callsIn_free free_wide (ones_any _ _)).mono ?_; rintro e w' ⟨rfl, rfl⟩)
 have LA := Has.new w 24 #[.int .u64 (lim a 0), .int .u64 (lim a 1), .int .u64 (lim a 2), .int .u64 (lim a 3)]
 have LA := LA.alloc (.cells #[.int .i64 up] 3)
 have LA := LA.alloc (.cells #[.int .u64 0, .int .u64 0, .int .u64 0, .int .u64 0] 24)
 have LA := LA.alloc (.cells #[.int .u64 0, .int .u64 0, .int .u64 0, .int .u64 0] 24)
 have LA := LA.alloc (.cells #[.pointer (some ⟨w.heap.size, 0, none⟩)] 125)
 have LU := Has.new (w.alloc (.cells #[.int .u64 (lim a 0), .int .u64 (lim a 1), .int .u64 (lim a 2), .int .u64 (lim a 3)] 24)) 3 #[.int .i64 up]
 simp only [World.size_alloc] at LU
 have LU := LU.alloc (.cells #[.int .u64 0, .int .u64 0, .int .u64 0, .int .u64 0] 24)
 have LU := LU.alloc (.cells #[.int .u64 0, .int .u64 0, .int .u64 0, .int .u64 0] 24)
 have LU := LU.alloc (.cells #[.pointer (some ⟨w.heap.size, 0, none⟩)] 125)
 have LR := Has.new ((w.alloc (.cells #[.int .u64 (lim a 0), .int .u64 (lim a 1), .int .u64 (lim a 2), .int .u64 (lim a 3)] 24)).alloc (.cells #[.int .i64 up] 3)) 24 #[.int .u64 0, .int .u64 0, .int .u64 0, .int .u64 0]
 simp only [World.size_alloc] at LR
 have LR := LR.alloc (.cells #[.int .u64 0, .int .u64 0, .int .u64 0, .int .u64 0] 24)
 have LR := LR.alloc (.cells #[.pointer (some ⟨w.heap.size, 0, none⟩)] 125)
 have LM := Has.new (((w.alloc (.cells #[.int .u64 (lim a 0), .int .u64 (lim a 1), .int .u64 (lim a 2), .int .u64 (lim a 3)] 24)).alloc (.cells #[.int .i64 up] 3)).alloc (.cells #[.int .u64 0, .int .u64 0, .int .u64 0, .int .u64 0] 24)) 24 #[.int .u64 0, .int .u64 0, .int .u64 0, .int .u64 0]
 simp only [World.size_alloc] at LM
 have LM := LM.alloc (.cells #[.pointer (some ⟨w.heap.size, 0, none⟩)] 125)
 have LP := Has.new ((((w.alloc (.cells #[.int .u64 (lim a 0), .int .u64 (lim a 1), .int .u64 (lim a 2), .int .u64 (lim a 3)] 24)).alloc (.cells #[.int .i64 up] 3)).alloc (.cells #[.int .u64 0, .int .u64 0, .int .u64 0, .int .u64 0] 24)).alloc (.cells #[.int .u64 0, .int .u64 0, .int .u64 0, .int .u64 0] 24)) 125 #[.pointer (some ⟨w.heap.size, 0, none⟩)]
 simp only [World.size_alloc] at LP
 have Q := Below.refl w.heap.size w
 have Q := Q.alloc Q.size (.cells #[.int .u64 (lim a 0), .int .u64 (lim a 1), .int .u64 (lim a 2), .int .u64 (lim a 3)] 24)
 have Q := Q.alloc Q.size (.cells #[.int .i64 up] 3)
 have Q := Q.alloc Q.size (.cells #[.int .u64 0, .int .u64 0, .int .u64 0, .int .u64 0] 24)
 have Q := Q.alloc Q.size (.cells #[.int .u64 0, .int .u64 0, .int .u64 0, .int .u64 0] 24)
 have Q := Q.alloc Q.size (.cells #[.pointer (some ⟨w.heap.size, 0, none⟩)] 125)
 have HT := (((((hT.alloc (.cells #[.int .u64 (lim a 0), .int .u64 (lim a 1), .int .u64 (lim a 2), .int .u64 (lim a 3)] 24)).alloc (.cells #[.int .i64 up] 3)).alloc (.cells #[.int .u64 0, .int .u64 0, .int .u64 0, .int .u64 0] 24)).alloc (.cells #[.int .u64 0, .int .u64 0, .int .u64 0, .int .u64 0] 24)).alloc (.cells #[.pointer (some ⟨w.heap.size, 0, none⟩)] 125))
 obtain ⟨W0, hW0⟩ : ∃ W0, (((((w.alloc (.cells #[.int .u64 (lim a 0), .int .u64 (lim a 1), .int .u64 (lim a 2), .int .u64 (lim a 3)] 24)).alloc (.cells #[.int .i64 up] 3)).alloc (.cells #[.int .u64 0, .int .u64 0, .int .u64 0, .int .u64 0] 24)).alloc (.cells #[.int .u64 0, .int .u64 0, .int .u64 0, .int .u64 0] 24)).alloc (.cells #[.pointer (some ⟨w.heap.size, 0, none⟩)] 125)) = W0 := ⟨_, rfl⟩
 have hsz : W0.heap.size = w.heap.size + 5 := by rw [← hW0]; simp
 rw [hW0] at LA LU LR LM LP Q HT ⊢
 clear hW0 hT
 have hz : ∀ j, lim 0 j = 0 := fun j => by unfold lim; split <;> simp
 have hJ0 : MovSt w a up (mvL up ((allOnes a).take 0)) W0 := ⟨LA, LU, LR, by rw [show limC (mvL up ((allOnes a).take 0)) = #[.int .u64 0, .int .u64 0, .int .u64 0, .int .u64 0] by unfold limC; simp [mvL, hz]]; exact LM, LP, HT, Q⟩
 clear LU LR LM hz Q
 refine wpIn_rangeFunc_N1 rfl (by omega) (gf := 180) (lb := #[.pointer (some ⟨w.heap.size + 1 + 1 + 1 + 1, 0, none⟩)]) rfl trivial (enters_of Tryz.func180 (by kernel_rfl) rfl)
  (ones_seq _ (by omega) _ _ a W0 (by omega) (by omega) HT (LP.cell 0 _ rfl) (fun j hj => LA.cell j _ (limC_get a j hj))) KeepsAt.trans (KeepsAt.refl _) (KeepsAt.b (by simp; omega)) (fun _ _ => rfl)
  (fun k W => MovSt w a up (mvL up ((allOnes a).take k)) W) (fun _ _ _ => False) (MovSt.own w a up _ ⟨hw0, by omega⟩ _) (fun _ _ _ _ _ hs _ _ => hs) hJ0
  (fun k => { tmps := #[.agg #[.int .u64 (lim a 0), .int .u64 (lim a 1), .int .u64 (lim a 2), .int .u64 (lim a 3)], .int .i64 up, .pointer (some ⟨w.heap.size, 0, none⟩), .pointer (some ⟨w.heap.size + 1, 0, none⟩), .pointer (some ⟨w.heap.size + 1 + 1, 0, none⟩), .pointer (some ⟨w.heap.size + 1 + 1 + 1, 0, none⟩), .int .i64 (((allOnes a).getD k 0 : Nat) : Int), undef, .agg #[.int .u64 0, .int .u64 0, .int .u64 0, .int .u64 0], .func (.func 180) #[] #[.pointer (some ⟨w.heap.size + 1 + 1 + 1 + 1, 0, none⟩)], .int .i64 (((allOnes a).getD k 0 : Nat) : Int), undef, undef, undef, undef, undef, undef, undef, undef, undef, undef, undef, undef, undef, undef, undef, undef, undef, undef, undef], defers := [] }) ?assign ?body ?done ?stop
 case assign =>
  intro l k W K hkN hK
  clear hkN
  generalize (allOnes a).getD k 0 = p at *
  gi_wp2
  exact hK
 case body =>
  rintro l k W hl hkN hst
  have hp : (allOnes a).getD k 0 < 256 := by
   rw [List.getD_eq_getElem?_getD, List.getElem?_eq_getElem hkN]
   exact allOnes_lt a _ (List.getElem_mem hkN)
  have hmv := mvL_take up (allOnes a) k hkN
  have hmw : W256 (mvL up ((allOnes a).take k)) := foldB_lt up _ 0 (by unfold W256; omega)
  generalize (allOnes a).getD k 0 = p at *
  have HST := hid hst
  have HMV := hid hmv
  have hpI : (p : Int) < 256 := by omega
  obtain ⟨hu1, hu2⟩ := hup
  clear hmv hst hJ0 LA LP HT hkN
  by_cases hx : 0 ≤ (p : Int) + up ∧ (p : Int) + up < 256
  ·obtain ⟨t, ht⟩ := Int.eq_ofNat_of_zero_le hx.1
   have ht6 : t < 256 := by omega
   obtain ⟨b1, b2⟩ := lim_put (mvL up ((allOnes a).take k)) t ht6
   have hpb : putB up (mvL up ((allOnes a).take k)) p = mvL up ((allOnes a).take k) ||| 2 ^ t := by
    unfold putB
    rw [if_pos hx, ht]
    rfl
   rw [hpb] at HMV
   obtain ⟨m', hm'⟩ : ∃ m', mvL up ((allOnes a).take (k + 1)) = m' := ⟨_, rfl⟩
   rw [hm'] at HMV
   have HM := hid hm'
   clear hm'
   generalize mvL up ((allOnes a).take k) = m at *
   rw [← HMV.out] at b1 b2
   have e1 : (t : Int).tdiv 64 = ((t / 64 : Nat) : Int) := by rw [Int.tdiv_eq_ediv_of_nonneg (by omega)]; omega
   have e2 : (t : Int).tmod 64 = ((t % 64 : Nat) : Int) := by rw [Int.tmod_eq_emod_of_nonneg (by omega)]; omega
   have hi4 : t / 64 < 4 := by omega
   have hr64 : t % 64 < 64 := by omega
   generalize t / 64 = i at *
   generalize t % 64 = r at *
   have hi4I : (i : Int) < 4 := by omega
   have hr64I : (r : Int) < 64 := by omega
   have ht6I : (t : Int) < 256 := by omega
   have HB2 := hid b2
   have HI4 := hid hi4
   have ku : W.cell? ⟨w.heap.size + 1, 0, none⟩ = some (.int .i64 up) := HST.out.U.cell 0 _ rfl
   have km : ∀ x : Ext W, x.w.cell? ⟨w.heap.size + 1 + 1 + 1, i, none⟩ = some (.int .u64 (lim m i)) := fun x => (HST.out.M.later x.below).cell i _ (limC_get m i hi4)
   have kz : ∀ x : Ext W, x.w.frozen? ⟨w.heap.size + 1 + 1 + 1, i, none⟩ = false := fun x => (HST.out.M.later x.below).frozen i
   clear hx hpb b2 hi4 hr64 ht6 HMV hp hmw
   gi_wp2_with fail
   refine wpIn_region_mix (C := Grows W) (free_round l) [some true, some true, some true, some true, some true, some true, some true, some true, some true, none] hmx (by kernel_rfl) (by kernel_rfl) (grows_refl W) ?_
   simp only [headOf, tailOf]
   repeat (go_big_quiet_step (fail))
   refine wpQuiet_nil ?_
   rintro _ ⟨x, rfl⟩
   have H2 := hid ((HST.out.later x.below).put hw0 (m' := m') i HI4.out HB2.out)
   have HKP := hid (x.keeps W0.heap.size)
   have kz' := kz x
   have km' := km x
   clear km kz
   go_wp2
   rw [calmPost_normal]
   gi_wp2
   refine ⟨HKP.out.trans ((KeepsOthers.setCell _ _ _).from _), ?_, by show MovSt w a up (mvL up ((allOnes a).take (k + 1))) _; rw [HM.out]; exact H2.out⟩
   refine KeepsAt.setCell (KeepsAt.below (KeepsAt.refl _ _) x.below (fun b' hb' => ?_)) (by simp; omega) _
   have := HST.out.P.lt
   simp at hb'
   omega
  ·have hpb : putB up (mvL up ((allOnes a).take k)) p = mvL up ((allOnes a).take k) := by unfold putB; rw [if_neg hx]
   rw [hpb] at HMV
   have H2 : Hid (MovSt w a up (mvL up ((allOnes a).take (k + 1))) W) := by rw [HMV.out]; exact HST.out
   have ku : W.cell? ⟨w.heap.size + 1, 0, none⟩ = some (.int .i64 up) := HST.out.U.cell 0 _ rfl
   clear hpb HMV hp hmw
   generalize mvL up ((allOnes a).take k) = m at *
   by_cases hx0 : 0 ≤ (p : Int) + up
   ·have hx1 : ¬ (p : Int) + up < 256 := fun h => hx ⟨hx0, h⟩
    clear hx
    gi_wp2
    exact ⟨KeepsFrom.refl _ _, KeepsAt.refl _ _, H2.out⟩
   ·clear hx
    gi_wp2
    exact ⟨KeepsFrom.refl _ _, KeepsAt.refl _ _, H2.out⟩
 case done =>
  rintro D W hD hst hK
  rw [List.take_length] at hst
  have HST := hid hst
  have HK := hid hK
  clear hst hK hJ0 LA LP HT
  have c0 : W.cell? ⟨w.heap.size + 1 + 1 + 1, 0, none⟩ = some (.int .u64 (lim (mvN a up) 0)) := HST.out.M.cell 0 _ (limC_get _ 0 (by omega))
  have c1 : W.cell? ⟨w.heap.size + 1 + 1 + 1, 1, none⟩ = some (.int .u64 (lim (mvN a up) 1)) := HST.out.M.cell 1 _ (limC_get _ 1 (by omega))
  have c2 : W.cell? ⟨w.heap.size + 1 + 1 + 1, 2, none⟩ = some (.int .u64 (lim (mvN a up) 2)) := HST.out.M.cell 2 _ (limC_get _ 2 (by omega))
  have c3 : W.cell? ⟨w.heap.size + 1 + 1 + 1, 3, none⟩ = some (.int .u64 (lim (mvN a up) 3)) := HST.out.M.cell 3 _ (limC_get _ 3 (by omega))
  have r0 := HST.out.R.cell 0 _ rfl
  have r1 := HST.out.R.cell 1 _ rfl
  have r2 := HST.out.R.cell 2 _ rfl
  have r3 := HST.out.R.cell 3 _ rfl
  have z0 := HST.out.R.frozen 0
  have z1 := HST.out.R.frozen 1
  have z2 := HST.out.R.frozen 2
  have z3 := HST.out.R.frozen 3
  have hRB : ∀ p : Addr, p.block = w.heap.size + 1 + 1 → w.heap.size ≤ p.block := fun p e => by omega
  have RR := hid ((((HST.out.R.set 0 (.int .u64 (lim (mvN a up) 0))).set 1 (.int .u64 (lim (mvN a up) 1))).set 2 (.int .u64 (lim (mvN a up) 2))).set 3 (.int .u64 (lim (mvN a up) 3)))
  have QQ := hid ((((HST.out.Q.setCell (p := ⟨w.heap.size + 1 + 1, 0, none⟩) (hRB _ rfl) (.int .u64 (lim (mvN a up) 0))).setCell (p := ⟨w.heap.size + 1 + 1, 1, none⟩) (hRB _ rfl) (.int .u64 (lim (mvN a up) 1))).setCell (p := ⟨w.heap.size + 1 + 1, 2, none⟩) (hRB _ rfl) (.int .u64 (lim (mvN a up) 2))).setCell (p := ⟨w.heap.size + 1 + 1, 3, none⟩) (hRB _ rfl) (.int .u64 (lim (mvN a up) 3)))
  have hDn : D ≠ w.heap.size + 1 + 1 := by omega
  clear hRB
  gi_wp2
  obtain ⟨W5, hW5⟩ : ∃ W5, ((((W.setCell ⟨w.heap.size + 1 + 1, 0, none⟩ (.int .u64 (lim (mvN a up) 0))).setCell ⟨w.heap.size + 1 + 1, 1, none⟩ (.int .u64 (lim (mvN a up) 1))).setCell ⟨w.heap.size + 1 + 1, 2, none⟩ (.int .u64 (lim (mvN a up) 2))).setCell ⟨w.heap.size + 1 + 1, 3, none⟩ (.int .u64 (lim (mvN a up) 3))) = W5 := ⟨_, rfl⟩
  have hK5 : W5.heap[D]? = some (.deferred (some [])) := by
   rw [← hW5]
   exact (Below.heap_setCell _ _ _ _ hDn).trans ((Below.heap_setCell _ _ _ _ hDn).trans ((Below.heap_setCell _ _ _ _ hDn).trans ((Below.heap_setCell _ _ _ _ hDn).trans HK.out)))
  have R5 := RR.out
  have Q5 := QQ.out
  rw [hW5] at R5 Q5 ⊢
  clear hW5 RR QQ c0 c1 c2 c3 r0 r1 r2 r3 z0 z1 z2 z3 HK HST
  have R6 : Has (W5.putObj D (.deferred none)) (w.heap.size + 1 + 1) 24 (limC (mvN a up)) := (World.putObj_heap_other (fun e => hDn e.symm)).trans R5
  have Q6 : Below w.heap.size w (W5.putObj D (.deferred none)) := Q5.trans (belowK_b (w := w) (Nat.le_refl _) _ D _ _ (by omega) hK5 rfl rfl)
  have e0 := R6.cell 0 _ (limC_get _ 0 (by omega))
  have e1 := R6.cell 1 _ (limC_get _ 1 (by omega))
  have e2 := R6.cell 2 _ (limC_get _ 2 (by omega))
  have e3 := R6.cell 3 _ (limC_get _ 3 (by omega))
  refine ⟨by simp, .inl ⟨_, _, rfl, run_takeDeferred hK5, ?_⟩⟩
  exact ⟨_, by simp [results, Tryz.f154, go_sem, e0, e1, e2, e3], rfl, Q6⟩
 case stop =>
  rintro D c k W _ _ h _
  exact h.elim
end
end Go.Proofs.YtnkhmgmganejmaaGreatDoor
