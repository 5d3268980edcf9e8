/- Part. -/
import Derived.Test.YthcmfadofogfaaaDoorG08
import Derived.Test.YthcmfadofogfaaaDoorG03
set_option maxRecDepth 100000
set_option maxHeartbeats 16000000
namespace Go.Proofs.YthcmfadofogfaaaDoor
section
open Go Go.RowKit Go.Maps Go.Shelf
attribute [local go_sem] Oper.semAt_some wide_fn
theorem wpListIn_append_runB {F : Fence} {n : Nat} {P : Program} {w w' : World} {ops : Array Oper} {rest : List Oper} {o : Oper} {a : Act} {Q : Exit → Act → World → Prop}
  (hg : o.guard = none) (s x : Operand) (t u : TypeId) (hop : o.op = Op.call { callee := Callee.builtin Builtin.append, args := #[s, x], argTypes := #[t, u] })
  (v x0 v' : Value) (hs : a.eval s = v) (hx : a.eval x = x0) (hr : (Builtin.append_ #[t, u] o.type #[v, x0]).run P w = .ok v' w')
  (hK : wpListIn F n P ops Q rest (a.put o.dst v') w') : wpListIn F n P ops Q (o :: rest) a w := by
 refine wpListIn_plain hg fun K hK' => ?_
 unfold Oper.wpIn
 refine ⟨by simp [Oper.about, hop, resolve, Target.leads, Sem.run_pure], ?_⟩
 rw [Oper.semAt_plain F _ _ (by rw [hop]; intro c hc'; cases hc')]
 simp [execOp, hop, resolve, invoke, builtin, hs, hx, hr, Result.andThen]
 exact hK' _ _ hK
def intsV (l : List Nat) : List Value := l.map fun (n : Nat) => Value.int .i64 (n : Int)
def JRow (w : World) (base : Nat) (v : Value) (l : List Nat) : Prop := w.ownsRow base 3 1 v l.length (intsV l)
theorem JRow.ownJ {X Y : World} {base : Nat} {v : Value} {l : List Nat} {row : Option Nat} (h : JRow X base v l) (hg : X.grownBy Y row) (hr : ∀ r, row = some r → ∃ o : Obj, X.heap[r]? = some o ∧ o.isCells = false) : JRow Y base v l := by
 refine ⟨h.1, h.2.imp id ?_⟩
 rintro ⟨g, cap, cur, e1, e2, e3, e4⟩
 refine ⟨g, cap, cur, e1, e2, (hg.block g (Array.getElem?_eq_some_iff.1 e3).1 (fun e => ?_)).trans e3, e4⟩
 obtain ⟨o, ho, hc⟩ := hr g e.symm
 rw [e3] at ho
 cases ho
 cases hc
theorem Has.ownO {X Y : World} {B : Nat} {t : TypeId} {cs : Array Value} {row : Option Nat} (h : Has X B t cs) (hg : X.grownBy Y row) (hr : ∀ r, row = some r → ∃ o : Obj, X.heap[r]? = some o ∧ o.isCells = false) : Has Y B t cs := by
 refine (hg.block B h.lt (fun e => ?_)).trans h
 obtain ⟨o, ho, hc⟩ := hr B e.symm
 unfold Has at h
 rw [h] at ho
 cases ho
 cases hc
theorem JRow.apart {w : World} {base b : Nat} {v : Value} {l : List Nat} {t : TypeId} {cs : Array Value} (h : JRow w base v l) (hb : Has w b t cs) (ht : t ≠ 3) : v.ownBlock ≠ some b := by
 intro e
 rcases h.2 with ⟨e1, _⟩ | ⟨g, cap, cur, e1, e2, e3, e4⟩
 ·rw [e1] at e; simp [Value.ownBlock] at e
 ·rw [e1] at e
  simp only [Value.ownBlock, Option.some.injEq] at e
  subst e
  unfold Has at hb
  rw [hb] at e3
  cases e3
  exact ht rfl
theorem JRow.setJ {w : World} {base b k : Nat} {v u : Value} {l : List Nat} (h : JRow w base v l) (hne : v.ownBlock ≠ some b) : JRow (w.setCell ⟨b, k, none⟩ u) base v l := by
 refine ⟨h.1, h.2.imp id ?_⟩
 rintro ⟨g, cap, cur, e1, e2, e3, e4⟩
 refine ⟨g, cap, cur, e1, e2, (Below.heap_setCell w ⟨b, k, none⟩ u g (fun e => hne ?_)).trans e3, e4⟩
 rw [e1]
 exact congrArg some e
theorem JRow.laterJ {w w' : World} {base : Nat} {v : Value} {l : List Nat} (h : JRow w base v l) (hb : Below w.heap.size w w') : JRow w' base v l := h.ownJ (grown_of_below hb none) (fun r e => by cases e)
theorem infoI8 : (Tryd.prog.info? 3).map (fun i => (i.zero, i.size, i.bytes)) = some (some (.int .i64 0), 1, 8) := by kernel_rfl
def jumpsTo (c : List UInt8) (k : Nat) : List Nat := ((placesL c).take k).filter (fun p => byteAt c p == 91)
theorem jumpsTo_succ (c : List UInt8) {k : Nat} (hk : k < numP c) : jumpsTo c (k + 1) = jumpsTo c k ++ (if byteAt c (nthP c k) = 91 then [nthP c k] else []) := by
 unfold jumpsTo
 rw [placesL_take c hk, List.filter_append]
 by_cases h : byteAt c (nthP c k) = 91
 ·simp [h]
 ·simp [h]
theorem jumpsTo_len (c : List UInt8) (k : Nat) : (jumpsTo c k).length ≤ c.length := by
 unfold jumpsTo
 have h1 := List.length_filter_le (fun p => byteAt c p == 91) ((placesL c).take k)
 have h2 := numP_le c
 unfold numP at h2
 rw [List.length_take] at h1
 omega
def JmSt (W : World) (b b5 : Nat) (s : ByteArray) (c : List UInt8) (k : Nat) (X : World) : Prop :=
 ∃ a n m, Has X b 32 #[.slice a n m] ∧ JRow X W.heap.size (.slice a n m) (jumpsTo c k) ∧ Has X b5 tSt #[.string s] ∧ Below W.heap.size W X
theorem JmSt.own {W : World} {b b5 : Nat} {s : ByteArray} {c : List UInt8} {n : Nat} (hn : W.heap.size ≤ n) : OwnFrom n (fun k X => JmSt W b b5 s c k X) := by
 rintro k X Y row ⟨a, n, m, h1, h2, h3, h4⟩ hg hr
 have hr2 := fun r e => (hr r e).2
 exact ⟨a, n, m, h1.ownO hg hr2, h2.ownJ hg hr2, h3.ownO hg hr2, h4.grown hg h4.size (fun k e => Nat.le_trans hn (hr k e).1)⟩
theorem jumps_code (W : World) (s : ByteArray) (hs : s.size ≤ 10000) : Calls Tryd.prog 15 #[.string s] W fun e w' => (∃ a n m, e = .returned (.slice a n m) ∧ JRow w' W.heap.size (.slice a n m) (jumpsL s.data.toList)) ∧ Below W.heap.size W w' := by
 refine (callsIn_wide (n := 6)).1 ?_
 obtain ⟨c, hc⟩ : ∃ c, s.data.toList = c := ⟨_, rfl⟩
 have hcl : c.length = s.size := by rw [← hc, Array.length_toList]; rfl
 rw [hc]
 obtain ⟨W1, hW1⟩ : ∃ W1, W.alloc (.cells #[.slice none 0 0] 32) = W1 := ⟨_, rfl⟩
 obtain ⟨W2, hW2⟩ : ∃ W2, W1.alloc (.cells #[.string s] tSt) = W2 := ⟨_, rfl⟩
 have q1 : Below W.heap.size W W1 := hW1 ▸ (Below.refl _ W).alloc (Nat.le_refl _) _
 have q2 : Below W1.heap.size W1 W2 := hW2 ▸ (Below.refl _ W1).alloc (Nat.le_refl _) _
 have z1 : W1.heap.size = W.heap.size + 1 := by rw [← hW1]; simp
 have z2 : W2.heap.size = W1.heap.size + 1 := by rw [← hW2]; simp
 have n1 : Has W1 W.heap.size 32 #[.slice none 0 0] := hW1 ▸ Has.new _ _ _
 have n2 : Has W2 W1.heap.size tSt #[.string s] := hW2 ▸ Has.new _ _ _
 have HST0 := hid (show JmSt W W.heap.size W1.heap.size s c 0 W2 from ⟨_, _, _, n1.later q2, (by unfold JRow jumpsTo; simp only [List.take_zero, List.filter_nil]; exact World.ownsRow_nil _ _ _ _), n2, q1.trans (q2.mono q1.size)⟩)
 have HS := hid hs
 have HC := hid (And.intro hc hcl)
 have HZ := hid (And.intro z1 z2)
 have HPM := hid (places_mk W1 s)
 rw [hW2] at HPM
 have HSEQ := hid (places_seq 5 (by omega) W1.heap.size s (Nat.le_trans hs (by decide)) W2 n2.lt (n2.cell 0 _ rfl))
 rw [hc] at HSEQ
 clear q1 q2 n1 n2 hs hc hcl z1 z2 hW2
 refine callsIn_of_wp_marks Tryd.func15 rfl trivial ?_ rfl
 simp only [Tryd.ntmps15, List.size_toArray, List.length_cons, List.length_nil, Nat.reduceAdd, Nat.reduceSub, Array.replicate_succ, Array.replicate_zero, List.push_toArray, List.append_toArray, List.nil_append, List.cons_append]
 gi_wp2_with fail
 refine (callsIn_free free_wide HPM.out).mono ?_
 rintro _ w5 ⟨rfl, hw⟩
 rw [hw]
 clear hw w5 HPM hW1
 gi_wp2_with fail
 refine wpIn_rangeFunc_N1 rfl (by omega) (gf := 58) (lb := #[.pointer (some ⟨W1.heap.size, 0, none⟩)]) rfl trivial (enters_of Tryd.func58 (by kernel_rfl) rfl)
  HSEQ.out KeepsAt.trans (KeepsAt.refl _) (KeepsAt.b (by have := HZ.out; simp; omega)) (fun _ _ => rfl)
  (fun k X => JmSt W W.heap.size W1.heap.size s c k X) (fun _ _ _ => False) (JmSt.own (by have := HZ.out; omega)) (fun _ => fun _ _ _ _ h => h.elim)
  HST0.out
  (fun k => { tmps := #[.string s, undef, .slice none 0 0, .pointer (some ⟨W.heap.size, 0, none⟩), .int .i64 (nthP c k : Int), .int .u8 (byteAt c (nthP c k) : Int), .string s, .func (.func 58) #[] #[.pointer (some ⟨W1.heap.size, 0, none⟩)], .int .i64 (nthP c k : Int), .int .u8 (byteAt c (nthP c k) : Int), undef, undef, undef, undef, undef, undef, undef], defers := [] }) ?assign ?body ?done ?stop
 case assign =>
  intro l k X K _ hK
  gi_wp2
  exact hK
 case body =>
  rintro l k X hlX hkN ⟨a, n, m, hb, hrow, hbs, hbel⟩
  have hstep := jumpsTo_succ c hkN
  obtain ⟨p, hp⟩ : ∃ p, nthP c k = p := ⟨_, rfl⟩
  rw [hp] at hstep ⊢
  obtain ⟨y, hy⟩ : ∃ y, byteAt c p = y := ⟨_, rfl⟩
  rw [hy] at hstep ⊢
  by_cases h91 : y = 91
  ·have h91I : (y : Int) = 91 := by omega
   rw [if_pos h91] at hstep
   obtain ⟨i0, hi, hz0, hz1, hz2⟩ := info_parts infoI8
   have hjl := jumpsTo_len c k
   have hcl := HC.out.2
   have hsl := HS.out
   obtain ⟨v', w2, hr, hown, hgrow, _⟩ := run_append_own (P := Tryd.prog) (X.alloc (.cells #[.int .i64 (p : Int)] 3)) W.heap.size 32 32 3 i0 (.int .i64 0) 1 8 Tryd.underlying32 hi hz0 hz1 hz2 rfl (by decide) (.slice a n m) (jumpsTo c k).length _ (hrow.laterJ ((Below.refl _ X).alloc (Nat.le_refl _) _)) ⟨X.heap.size, 0, none⟩ 1 1 [.int .i64 (p : Int)] rfl (cell_one_new _ _ _) (by simp [Value.oneCell']) (by unfold maxLen; omega) (by omega) (by have := hbel.size; simp; omega)
   obtain ⟨a2, n2, m2, rfl⟩ : ∃ a n m, v' = .slice a n m := by
    rcases hown.2 with ⟨h, _⟩ | ⟨g, cap, cur, h, _⟩
    ·exact ⟨_, _, _, h⟩
    ·exact ⟨_, _, _, h⟩
   obtain ⟨X1, hX1⟩ : ∃ X1, X.alloc (.cells #[.int .i64 (p : Int)] 3) = X1 := ⟨_, rfl⟩
   have q1 : Below X.heap.size X X1 := hX1 ▸ (Below.refl _ X).alloc (Nat.le_refl _) _
   rw [hX1] at hr hgrow
   have hne := hrow.apart hb (by decide)
   have hne5 := hrow.apart hbs (by decide)
   have hb1 := hb.later q1
   have hbs1 := hbs.later q1
   have hb2 : Has w2 W.heap.size 32 #[.slice a n m] := (hgrow.block _ hb1.lt (fun e => hne e.symm)).trans hb1
   have hbs2 : Has w2 W1.heap.size tSt #[.string s] := (hgrow.block _ hbs1.lt (fun e => hne5 e.symm)).trans hbs1
   have hrow2 : JRow w2 W.heap.size (.slice a2 n2 m2) (jumpsTo c (k + 1)) := by
    unfold JRow intsV at *
    rw [hstep, List.length_append, List.map_append]
    exact hown
   have hbel2 := (hbel.trans (q1.mono hbel.size)).grown hgrow (Nat.le_trans hbel.size q1.size) (fun k e => (hrow.lt k e).1)
   have hne2 := hrow2.apart hb2 (by decide)
   have HKF := hid (show ∀ (i : Nat) (o : Obj), X.heap[i]? = some o → o.isCells = false → w2.heap[i]? = some o from fun i o hi ho => by
    have h1 := (Array.getElem?_eq_some_iff.1 hi).1
    refine (hgrow.block i (Nat.lt_of_lt_of_le h1 q1.size) (fun e => ?_)).trans ((q1.block i h1).trans hi)
    rcases hrow.2 with ⟨e1, _⟩ | ⟨g, cap, cur, e1, e2, e3, e4⟩
    ·rw [e1] at e; simp [Value.ownBlock] at e
    ·rw [e1] at e
     simp only [Value.ownBlock, Option.some.injEq] at e
     subst e
     rw [e3] at hi
     cases hi
     cases ho)
   have HB := hid (And.intro hb2 (And.intro hbs2 (And.intro (hrow2.setJ (u := .slice a2 n2 m2) (k := 0) hne2) (And.intro (hbel2.setCell (p := ⟨W.heap.size, 0, none⟩) (Nat.le_refl _) (.slice a2 n2 m2)) (And.intro hbs (Nat.le_trans q1.size hgrow.size))))))
   have x0 := hb.cell 0 _ rfl
   have y0 := hb2.cell 0 _ rfl
   have yf := hb2.frozen 0
   have HZ2 := hid hb
   clear hi hz0 hz1 hz2 hown hgrow hne hne5 hb1 hbs1 hb2 hbs2 hrow2 hbel2 hne2 q1 hb hrow hbs hbel hstep hjl hcl hsl hp hy h91 hkN
   gi_wp2_with (gi_at_builtin; refine wpListIn_append_runB rfl (.tmp 12) (.tmp 14) _ _ rfl _ _ _ rfl rfl hr ?_)
   have hz := HZ.out
   refine ⟨⟨by simpa using HB.out.2.2.2.2.2, fun i o hi hio hoc => ?_⟩, fun b hbm => ?_, a2, n2, m2, HB.out.1.set 0 _, HB.out.2.2.1, HB.out.2.1.other (by show W1.heap.size ≠ W.heap.size; omega) _, HB.out.2.2.2.1⟩
   ·refine (Below.heap_setCell w2 ⟨W.heap.size, 0, none⟩ _ i (fun e => ?_)).trans (HKF.out i o hio hoc)
    have h1 := HZ2.out
    unfold Has at h1
    rw [show i = W.heap.size from e, h1] at hio
    cases hio
    cases hoc
   ·obtain rfl : b = W1.heap.size := by simpa using hbm
    refine (Below.heap_setCell w2 ⟨W.heap.size, 0, none⟩ _ _ (by show W1.heap.size ≠ W.heap.size; omega)).trans ?_
    exact HB.out.2.1.trans HB.out.2.2.2.2.1.symm
  ·rw [if_neg h91, List.append_nil] at hstep
   have h91I : ¬ (y : Int) = 91 := by omega
   have HB := hid (And.intro hb (And.intro hrow (And.intro hbs hbel)))
   clear hb hrow hbs hbel h91 hy hp hkN
   gi_wp2_with fail
   exact ⟨KeepsFrom.refl _ _, KeepsAt.refl _ _, _, _, _, HB.out.1, by rw [hstep]; exact HB.out.2.1, HB.out.2.2.1, HB.out.2.2.2⟩
 case done =>
  rintro D X hD ⟨a, n, m, hb, hrow, hbs, hbel⟩ hK
  have x0 := hb.cell 0 _ rfl
  have HR := hid hrow
  have HK := hid hK
  have HQ := hid hbel
  clear hb hrow hbs hbel hK
  gi_wp2_with fail
  refine ⟨by simp, .inl ⟨_, _, rfl, run_takeDeferred HK.out, ?_⟩⟩
  refine ⟨_, (by simp [results, Tryd.f15, go_sem]), ⟨a, n, m, rfl, ?_⟩, HQ.out.trans (belowK_b (w := W) (Nat.le_refl _) _ D _ _ (by have := HZ.out; omega) HK.out rfl rfl)⟩
  have hgp : X.grownBy (X.putObj D (.deferred none)) (some D) := ⟨rfl, rfl, rfl, by simp, fun i _ hi => World.putObj_heap_other (fun e => hi (congrArg some e))⟩
  have e1 : jumpsTo c (numP c) = jumpsL c := by unfold jumpsTo jumpsL; rw [show (placesL c).take (numP c) = placesL c from placesL_all c]
  rw [← e1]
  exact HR.out.ownJ hgp (fun r e => by obtain rfl := Option.some.inj e; exact ⟨_, HK.out, rfl⟩)
 case stop =>
  rintro D cc k X hD hkn h hK
  exact h.elim
end
section
open Go Go.RowKit Go.Maps Go.Shelf
attribute [local go_sem] Oper.semAt_some Grows wide_fn
def pushW (c : List UInt8) (pc n : Int) : Nat :=
 if 0 ≤ pc ∧ pc < (c.length : Int) ∧ 1 ≤ n ∧ n ≤ 32 then fromB (behindL c pc.toNat n.toNat ++ List.replicate (n.toNat - (behindL c pc.toNat n.toNat).length) 0) else 0
theorem results_wd {fn : Func} {t : Tmp} {tmps : Array Value} {W : World} {B : Nat} {m : Nat → Int} (h : fn.results = #[ResultVar.cell t 37]) (ht : tmps.getD t undef = .pointer (some ⟨B, 0, none⟩)) (hA : Has W B 37 #[.int .u64 (m 0), .int .u64 (m 1), .int .u64 (m 2), .int .u64 (m 3)]) :
  (results fn tmps).run Tryd.prog W = .ok (.agg #[.int .u64 (m 0), .int .u64 (m 1), .int .u64 (m 2), .int .u64 (m 3)]) W := by
 have e0 := hA.cell 0 _ rfl
 have e1 := hA.cell 1 _ rfl
 have e2 := hA.cell 2 _ rfl
 have e3 := hA.cell 3 _ rfl
 simp at ht
 simp [results, h, ht, go_sem, e0, e1, e2, e3]
theorem zeros_cut : ∀ k : Nat, k ≤ 32 → (ByteArray.mk #[0, 0, 0, 0, 0, 0, 0, 0, 0, 0, 0, 0, 0, 0, 0, 0, 0, 0, 0, 0, 0, 0, 0, 0, 0, 0, 0, 0, 0, 0, 0, 0]).extract 0 k = ⟨(List.replicate k 0).toArray⟩ := by
 intro k hk
 have : ∀ k : Nat, k < 33 → (ByteArray.mk #[0, 0, 0, 0, 0, 0, 0, 0, 0, 0, 0, 0, 0, 0, 0, 0, 0, 0, 0, 0, 0, 0, 0, 0, 0, 0, 0, 0, 0, 0, 0, 0]).extract 0 k = ⟨(List.replicate k 0).toArray⟩ := by decide +kernel
 exact this k (by omega)
theorem push_neg (W : World) (s : ByteArray) (pc n : Int) (_hs : s.size ≤ 10000) (h : pc < 0) :
  Calls Tryd.prog 19 #[.string s, .int .i64 pc, .int .i64 n] W fun e w' => e = .returned (wv 0) ∧ Below W.heap.size W w' := by
 obtain ⟨W1, hW1⟩ : ∃ W1, W.alloc (.cells #[.int .u64 0, .int .u64 0, .int .u64 0, .int .u64 0] 37) = W1 := ⟨_, rfl⟩
 have q1 : Below W.heap.size W W1 := hW1 ▸ (Below.refl _ W).alloc (Nat.le_refl _) _
 have n1 : Has W1 W.heap.size 37 #[.int .u64 0, .int .u64 0, .int .u64 0, .int .u64 0] := hW1 ▸ Has.new _ _ _
 have k0 := n1.cell 0 _ rfl
 have k1 := n1.cell 1 _ rfl
 have k2 := n1.cell 2 _ rfl
 have k3 := n1.cell 3 _ rfl
 have f0 := n1.frozen 0
 have f1 := n1.frozen 1
 have f2 := n1.frozen 2
 have f3 := n1.frozen 3
 have N1 := hid n1
 have Q1 := hid q1
 clear q1 n1
 go_enter Tryd.func19, Tryd.ntmps19
 go_wp2_with fail
 exact bodyPost_ret (results_wd (m := fun _ => 0) rfl rfl (((((N1.out).set 0 (.int .u64 0)).set 1 (.int .u64 0)).set 2 (.int .u64 0)).set 3 (.int .u64 0))) rfl ⟨by rw [wv_of (n := 0) ⟨rfl, rfl, rfl, rfl⟩]; rfl, ((((Q1.out).setCell (Nat.le_refl _) _).setCell (Nat.le_refl _) _).setCell (Nat.le_refl _) _).setCell (Nat.le_refl _) _⟩
theorem push_far (W : World) (s : ByteArray) (pc n : Int) (_hs : s.size ≤ 10000) (h0 : ¬ pc < 0) (h : (s.size : Int) ≤ pc) :
  Calls Tryd.prog 19 #[.string s, .int .i64 pc, .int .i64 n] W fun e w' => e = .returned (wv 0) ∧ Below W.heap.size W w' := by
 obtain ⟨W1, hW1⟩ : ∃ W1, W.alloc (.cells #[.int .u64 0, .int .u64 0, .int .u64 0, .int .u64 0] 37) = W1 := ⟨_, rfl⟩
 have q1 : Below W.heap.size W W1 := hW1 ▸ (Below.refl _ W).alloc (Nat.le_refl _) _
 have n1 : Has W1 W.heap.size 37 #[.int .u64 0, .int .u64 0, .int .u64 0, .int .u64 0] := hW1 ▸ Has.new _ _ _
 have k0 := n1.cell 0 _ rfl
 have k1 := n1.cell 1 _ rfl
 have k2 := n1.cell 2 _ rfl
 have k3 := n1.cell 3 _ rfl
 have f0 := n1.frozen 0
 have f1 := n1.frozen 1
 have f2 := n1.frozen 2
 have f3 := n1.frozen 3
 have N1 := hid n1
 have Q1 := hid q1
 clear q1 n1
 go_enter Tryd.func19, Tryd.ntmps19
 go_wp2_with fail
 exact bodyPost_ret (results_wd (m := fun _ => 0) rfl rfl (((((N1.out).set 0 (.int .u64 0)).set 1 (.int .u64 0)).set 2 (.int .u64 0)).set 3 (.int .u64 0))) rfl ⟨by rw [wv_of (n := 0) ⟨rfl, rfl, rfl, rfl⟩]; rfl, ((((Q1.out).setCell (Nat.le_refl _) _).setCell (Nat.le_refl _) _).setCell (Nat.le_refl _) _).setCell (Nat.le_refl _) _⟩
theorem push_less (W : World) (s : ByteArray) (pc n : Int) (_hs : s.size ≤ 10000) (h0 : ¬ pc < 0) (h1 : ¬ (s.size : Int) ≤ pc) (h : n < 1) :
  Calls Tryd.prog 19 #[.string s, .int .i64 pc, .int .i64 n] W fun e w' => e = .returned (wv 0) ∧ Below W.heap.size W w' := by
 obtain ⟨W1, hW1⟩ : ∃ W1, W.alloc (.cells #[.int .u64 0, .int .u64 0, .int .u64 0, .int .u64 0] 37) = W1 := ⟨_, rfl⟩
 have q1 : Below W.heap.size W W1 := hW1 ▸ (Below.refl _ W).alloc (Nat.le_refl _) _
 have n1 : Has W1 W.heap.size 37 #[.int .u64 0, .int .u64 0, .int .u64 0, .int .u64 0] := hW1 ▸ Has.new _ _ _
 have k0 := n1.cell 0 _ rfl
 have k1 := n1.cell 1 _ rfl
 have k2 := n1.cell 2 _ rfl
 have k3 := n1.cell 3 _ rfl
 have f0 := n1.frozen 0
 have f1 := n1.frozen 1
 have f2 := n1.frozen 2
 have f3 := n1.frozen 3
 have N1 := hid n1
 have Q1 := hid q1
 clear q1 n1
 go_enter Tryd.func19, Tryd.ntmps19
 go_wp2_with fail
 exact bodyPost_ret (results_wd (m := fun _ => 0) rfl rfl (((((N1.out).set 0 (.int .u64 0)).set 1 (.int .u64 0)).set 2 (.int .u64 0)).set 3 (.int .u64 0))) rfl ⟨by rw [wv_of (n := 0) ⟨rfl, rfl, rfl, rfl⟩]; rfl, ((((Q1.out).setCell (Nat.le_refl _) _).setCell (Nat.le_refl _) _).setCell (Nat.le_refl _) _).setCell (Nat.le_refl _) _⟩
theorem push_more (W : World) (s : ByteArray) (pc n : Int) (_hs : s.size ≤ 10000) (h0 : ¬ pc < 0) (h1 : ¬ (s.size : Int) ≤ pc) (h2 : ¬ n < 1) (h : 32 < n) :
  Calls Tryd.prog 19 #[.string s, .int .i64 pc, .int .i64 n] W fun e w' => e = .returned (wv 0) ∧ Below W.heap.size W w' := by
 obtain ⟨W1, hW1⟩ : ∃ W1, W.alloc (.cells #[.int .u64 0, .int .u64 0, .int .u64 0, .int .u64 0] 37) = W1 := ⟨_, rfl⟩
 have q1 : Below W.heap.size W W1 := hW1 ▸ (Below.refl _ W).alloc (Nat.le_refl _) _
 have n1 : Has W1 W.heap.size 37 #[.int .u64 0, .int .u64 0, .int .u64 0, .int .u64 0] := hW1 ▸ Has.new _ _ _
 have k0 := n1.cell 0 _ rfl
 have k1 := n1.cell 1 _ rfl
 have k2 := n1.cell 2 _ rfl
 have k3 := n1.cell 3 _ rfl
 have f0 := n1.frozen 0
 have f1 := n1.frozen 1
 have f2 := n1.frozen 2
 have f3 := n1.frozen 3
 have N1 := hid n1
 have Q1 := hid q1
 clear q1 n1
 go_enter Tryd.func19, Tryd.ntmps19
 go_wp2_with fail
 exact bodyPost_ret (results_wd (m := fun _ => 0) rfl rfl (((((N1.out).set 0 (.int .u64 0)).set 1 (.int .u64 0)).set 2 (.int .u64 0)).set 3 (.int .u64 0))) rfl ⟨by rw [wv_of (n := 0) ⟨rfl, rfl, rfl, rfl⟩]; rfl, ((((Q1.out).setCell (Nat.le_refl _) _).setCell (Nat.le_refl _) _).setCell (Nat.le_refl _) _).setCell (Nat.le_refl _) _⟩
theorem push_in (W : World) (s : ByteArray) (p k : Nat) (hs : s.size ≤ 10000) (hp : p < s.size) (hk1 : 1 ≤ k) (hk2 : k ≤ 32) :
  Calls Tryd.prog 19 #[.string s, .int .i64 (p : Int), .int .i64 (k : Int)] W fun e w' => e = .returned (wv (fromB (behindL s.data.toList p k ++ List.replicate (k - (behindL s.data.toList p k).length) 0))) ∧ Below W.heap.size W w' := by
 have HBE := hid (fun w => behind_any w s p k hp (Nat.le_trans hs (by decide)) (Nat.le_trans hk2 (by decide)))
 obtain ⟨bh, hbh⟩ : ∃ bh, behindL s.data.toList p k = bh := ⟨_, rfl⟩
 have hbl : bh.length ≤ k := by rw [← hbh]; unfold behindL; rw [List.length_take]; exact Nat.min_le_left _ _
 rw [hbh] at HBE ⊢
 have hfb := fromBytes_ret ⟨(bh ++ List.replicate (k - bh.length) 0).toArray⟩ (by simp [ByteArray.size]; omega)
 have e0 : (⟨(bh ++ List.replicate (k - bh.length) 0).toArray⟩ : ByteArray).data.toList = bh ++ List.replicate (k - bh.length) 0 := rfl
 rw [e0] at hfb
 have hct : (ByteArray.mk bh.toArray) ++ (ByteArray.mk (List.replicate (k - bh.length) (0 : UInt8)).toArray) = ⟨(bh ++ List.replicate (k - bh.length) 0).toArray⟩ := catB _ _
 obtain ⟨x, hx⟩ : ∃ x, fromB (bh ++ List.replicate (k - bh.length) 0) = x := ⟨_, rfl⟩
 rw [hx] at hfb ⊢
 unfold wv at hfb ⊢
 obtain ⟨z0, h0⟩ : ∃ z, lim x 0 = z := ⟨_, rfl⟩
 obtain ⟨z1, h1⟩ : ∃ z, lim x 1 = z := ⟨_, rfl⟩
 obtain ⟨z2, h2⟩ : ∃ z, lim x 2 = z := ⟨_, rfl⟩
 obtain ⟨z3, h3⟩ : ∃ z, lim x 3 = z := ⟨_, rfl⟩
 rw [h0, h1, h2, h3] at hfb ⊢
 have HF := hid hfb
 have hcut := zeros_cut (k - bh.length) (by omega)
 obtain ⟨zs, hzs⟩ : ∃ zs : ByteArray, (⟨(List.replicate (k - bh.length) (0 : UInt8)).toArray⟩ : ByteArray) = zs := ⟨_, rfl⟩
 obtain ⟨full, hfull⟩ : ∃ full : ByteArray, (⟨(bh ++ List.replicate (k - bh.length) 0).toArray⟩ : ByteArray) = full := ⟨_, rfl⟩
 have hzl : zs.size = k - bh.length := by rw [← hzs]; simp [ByteArray.size]
 rw [hzs] at hcut hct
 rw [hfull] at hct HF
 obtain ⟨bb, hbb⟩ : ∃ bb : ByteArray, (⟨bh.toArray⟩ : ByteArray) = bb := ⟨_, rfl⟩
 have hbs : bb.size = bh.length := by rw [← hbb]; simp [ByteArray.size]
 rw [hbb] at HBE hct
 obtain ⟨N, hN⟩ : ∃ N, bh.length = N := ⟨_, rfl⟩
 rw [hN] at hcut hzl hbs hbl
 have p0 : ¬ (p : Int) < 0 := by omega
 have p1 : ¬ (s.size : Int) ≤ (p : Int) := by omega
 have p2 : ¬ (k : Int) < 1 := by omega
 have p3 : ¬ (32 : Int) < (k : Int) := by omega
 have p4 : (0 : Int) ≤ (k : Int) - (N : Int) := by omega
 have p5 : (k : Int) - (N : Int) ≤ 32 := by omega
 have hkN : ((k : Int) - (N : Int)).toNat = k - N := by omega
 have hcat : ¬ 9223372036854775807 < bb.size + zs.size := by omega
 have HCT := hid hct
 have HCU := hid hcut
 clear hbh hfb e0 hx h0 h1 h2 h3 hzs hfull hbb hN hs hp hk1 hk2 hbl hct
 obtain ⟨W1, hW1⟩ : ∃ W1, W.alloc (.cells #[.int .u64 0, .int .u64 0, .int .u64 0, .int .u64 0] 37) = W1 := ⟨_, rfl⟩
 have q1 : Below W.heap.size W W1 := hW1 ▸ (Below.refl _ W).alloc (Nat.le_refl _) _
 have n1 : Has W1 W.heap.size 37 #[.int .u64 0, .int .u64 0, .int .u64 0, .int .u64 0] := hW1 ▸ Has.new _ _ _
 have k0 := n1.cell 0 _ rfl
 have k1 := n1.cell 1 _ rfl
 have k2 := n1.cell 2 _ rfl
 have k3 := n1.cell 3 _ rfl
 have f0 := n1.frozen 0
 have f1 := n1.frozen 1
 have f2 := n1.frozen 2
 have f3 := n1.frozen 3
 have N1 := hid n1
 have Q1 := hid q1
 clear q1 n1
 go_enter Tryd.func19, Tryd.ntmps19
 go_wp2_with fail
 refine (HBE.out _).mono ?_
 rintro _ w2 ⟨rfl, hw⟩
 rw [hw]
 clear hw w2
 go_wp2_with fail
 rw [HCT.out]
 refine (HF.out _).mono ?_
 rintro _ w3 ⟨rfl, q3⟩
 clear k0 k1 k2 k3 f0 f1 f2 f3
 have n3 := N1.out.later q3
 have Q3 := hid (Q1.out.trans (q3.mono Q1.out.size))
 have k0 := n3.cell 0 _ rfl
 have k1 := n3.cell 1 _ rfl
 have k2 := n3.cell 2 _ rfl
 have k3 := n3.cell 3 _ rfl
 have f0 := n3.frozen 0
 have f1 := n3.frozen 1
 have f2 := n3.frozen 2
 have f3 := n3.frozen 3
 have N3 := hid n3
 clear n3 q3 N1 Q1
 go_wp2_with fail
 exact bodyPost_ret (results_wd (m := fun j => match j with | 0 => z0 | 1 => z1 | 2 => z2 | _ => z3) rfl rfl (((((N3.out).set 0 (.int .u64 z0)).set 1 (.int .u64 z1)).set 2 (.int .u64 z2)).set 3 (.int .u64 z3))) rfl ⟨rfl, ((((Q3.out).setCell (Nat.le_refl _) _).setCell (Nat.le_refl _) _).setCell (Nat.le_refl _) _).setCell (Nat.le_refl _) _⟩
theorem push_any (W : World) (s : ByteArray) (hs : s.size ≤ 10000) (pc n : Int) : Calls Tryd.prog 19 #[.string s, .int .i64 pc, .int .i64 n] W fun e w' => e = .returned (wv (pushW s.data.toList pc n)) ∧ Below W.heap.size W w' := by
 have hl : s.data.toList.length = s.size := by rw [Array.length_toList]; rfl
 by_cases h0 : pc < 0
 ·have e : pushW s.data.toList pc n = 0 := by unfold pushW; rw [if_neg (by omega)]
  rw [e]; exact push_neg W s pc n hs h0
 by_cases h1 : (s.size : Int) ≤ pc
 ·have e : pushW s.data.toList pc n = 0 := by unfold pushW; rw [if_neg (by omega)]
  rw [e]; exact push_far W s pc n hs h0 h1
 by_cases h2 : n < 1
 ·have e : pushW s.data.toList pc n = 0 := by unfold pushW; rw [if_neg (by omega)]
  rw [e]; exact push_less W s pc n hs h0 h1 h2
 by_cases h3 : 32 < n
 ·have e : pushW s.data.toList pc n = 0 := by unfold pushW; rw [if_neg (by omega)]
  rw [e]; exact push_more W s pc n hs h0 h1 h2 h3
 obtain ⟨p, rfl⟩ : ∃ p : Nat, pc = (p : Int) := ⟨pc.toNat, by omega⟩
 obtain ⟨k, rfl⟩ : ∃ k : Nat, n = (k : Int) := ⟨n.toNat, by omega⟩
 have e : pushW s.data.toList (p : Int) (k : Int) = fromB (behindL s.data.toList p k ++ List.replicate (k - (behindL s.data.toList p k).length) 0) := by unfold pushW; rw [if_pos (by omega)]; rfl
 rw [e]
 exact push_in W s p k hs (by omega) (by omega) (by omega)
end
end Go.Proofs.YthcmfadofogfaaaDoor
