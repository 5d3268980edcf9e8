/- Part. -/
import Derived.Test.YtkicmbdjihjgfaaGreatDoorH09
import Derived.Test.YtkicmbdjihjgfaaGreatDoorH04
import Derived.Deep.Upon
import Derived.Lib.SliceRun
import Derived.Test.YtkicmbdjihjgfaaGreatDoorH07
import Derived.Laws.StructEq
import Derived.Laws.Cover2
import Derived.Great.BuildSlice
set_option maxRecDepth 100000
set_option maxHeartbeats 16000000
namespace Go.Proofs.YtkicmbdjihjgfaaGreatDoor
section
open Go Go.RowKit
attribute [local go_sem] Oper.semAt_some Grows wide_fn eq4
theorem results_h {fn : Func} {t : Tmp} {tmps : Array Value} {W : World} {B : Nat} {v0 v1 v2 v3 : Value} (h : fn.results = #[ResultVar.cell t 28]) (ht : tmps.getD t undef = .pointer (some ⟨B, 0, none⟩)) (hA : Has W B 28 #[v0, v1, v2, v3]) :
  (results fn tmps).run Tryz.prog W = .ok (.agg #[v0, v1, v2, v3]) W := by
 have e0 := hA.cell 0 _ rfl
 have e1 := hA.cell 1 _ rfl
 have e2 := hA.cell 2 _ rfl
 have e3 := hA.cell 3 _ rfl
 simp at ht
 simp [results, h, ht, go_sem, e0, e1, e2, e3]
theorem lk_first : ∀ {l : List Sl} {n : Nat} {x : Sl}, l[n]? = some x → (∀ (j : Nat) (y : Sl), j < n → l[j]? = some y → y.1 ≠ x.1) → lk l x.1 = some x.2
 | [], n, x, h, _ => by simp at h
 | y :: l, 0, x, h, _ => by
  simp at h
  subst h
  rw [lk, if_pos rfl]
 | y :: l, n + 1, x, h, hn => by
  rw [lk, if_neg (hn 0 y (by omega) (by simp))]
  exact lk_first (by simpa using h) (fun j z hj hz => hn (j + 1) z (by omega) (by simpa using hz))
theorem lk_no {l : List Sl} {k : Nat} (h : ∀ (j : Nat) (y : Sl), l[j]? = some y → y.1 ≠ k) : lk l k = none :=
 lk_none (fun y hy => by
  obtain ⟨j, hj⟩ := List.getElem?_of_mem hy
  exact h j y hj)
theorem get_any (W : World) (sv : Value) (l : List Sl) (hs : SlotsAt W sv l) (g : Nat) (hg : W256 g) :
  Calls Tryz.prog 91 #[sv, wv g] W fun e w' => e = .returned (wv (look l g)) ∧ Below W.heap.size W w' := by
 obtain ⟨a, cap, rfl, hnc, hcm⟩ := hs.shape
 have HS := hid hs
 obtain ⟨n, hn⟩ : ∃ n, l.length = n := ⟨_, rfl⟩
 rw [hn] at HS hnc ⊢
 have HN := hid hn
 have hlc := hid (Nat.le_trans hnc hcm)
 have HG := hid hg
 clear hs hnc hcm hn hg
 have hfin := hid (show ∀ X v, Below W.heap.size W X → look l g = v → (Ending.returned (wv v) = .returned (wv (look l g)) ∧ Below W.heap.size W X) from fun X v hX h => ⟨by rw [h], hX⟩)
 obtain ⟨Post, hPost⟩ : ∃ Post : Ending → World → Prop, (fun (e : Ending) (w' : World) => e = .returned (wv (look l g)) ∧ Below W.heap.size W w') = Post := ⟨_, rfl⟩
 replace hfin := hid (show ∀ X v, Below W.heap.size W X → look l g = v → Post (.returned (wv v)) X by rw [← hPost]; exact hfin.out)
 rw [hPost]
 clear hPost
 have hEQ := hid (fun (x : Nat) (hx : W256 x) => eqv_w x g hx HG.out)
 unfold wv
 generalize hg0 : lim g 0 = g0 at hEQ ⊢
 generalize hg1 : lim g 1 = g1 at hEQ ⊢
 generalize hg2 : lim g 2 = g2 at hEQ ⊢
 generalize hg3 : lim g 3 = g3 at hEQ ⊢
 clear hg0 hg1 hg2 hg3
 have K0 := (Has.new W 28 #[.int .u64 g0, .int .u64 g1, .int .u64 g2, .int .u64 g3]).alloc (.cells #[.int .u64 0, .int .u64 0, .int .u64 0, .int .u64 0] 28)
 have Z0 := Has.new (W.alloc (.cells #[.int .u64 g0, .int .u64 g1, .int .u64 g2, .int .u64 g3] 28)) 28 #[.int .u64 0, .int .u64 0, .int .u64 0, .int .u64 0]
 simp only [World.size_alloc] at Z0
 have q0 := (newA W (.cells #[.int .u64 g0, .int .u64 g1, .int .u64 g2, .int .u64 g3] 28)).alloc (by simp) (.cells #[.int .u64 0, .int .u64 0, .int .u64 0, .int .u64 0] 28)
 have hsz0 : ((W.alloc (.cells #[.int .u64 g0, .int .u64 g1, .int .u64 g2, .int .u64 g3] 28)).alloc (.cells #[.int .u64 0, .int .u64 0, .int .u64 0, .int .u64 0] 28)).heap.size = W.heap.size + 1 + 1 := by simp
 obtain ⟨V, hV⟩ : ∃ V, (W.alloc (.cells #[.int .u64 g0, .int .u64 g1, .int .u64 g2, .int .u64 g3] 28)).alloc (.cells #[.int .u64 0, .int .u64 0, .int .u64 0, .int .u64 0] 28) = V := ⟨_, rfl⟩
 rw [hV] at K0 Z0 q0 hsz0
 have KK := hid K0
 have ZZ := hid Z0
 have QQ := hid q0
 have hsz := hid hsz0
 clear K0 Z0 q0 hsz0
 go_enter Tryz.func91, Tryz.ntmps91
 go_wp2_with fail
 clear hV
 go_loopw [9] (fun i wr => ∃ k : Nat, k ≤ n ∧ i = .int .i64 (k : Int) ∧ (∀ (j : Nat) (x : Sl), j < k → l[j]? = some x → x.1 ≠ g) ∧ Below V.heap.size V wr) (fun i _ => n - (intOf i).toNat)
 case atStart => exact ⟨0, by omega, rfl, fun j x h => absurd h (by omega), Below.refl _ _⟩
 case round =>
  obtain ⟨k, hk, rfl, hlt, hq⟩ := hrel
  have HLT := hid hlt
  have HQ := hid hq
  clear hlt hq
  have HK := hid (KK.out.later HQ.out)
  have HZ := hid (ZZ.out.later HQ.out)
  have QW := hid (QQ.out.trans (HQ.out.mono QQ.out.size))
  have hsr := hid (show W.heap.size + 1 + 1 ≤ wr.heap.size by have := HQ.out.size; have := hsz.out; omega)
  by_cases hkn : k < n
  ·have hknI : (k : Int) < (n : Int) := by omega
   have hk0 : (0 : Int) ≤ (k : Int) := by omega
   have hkb : (k : Int) ≤ 9223372036854775806 := by have := hlc.out; omega
   obtain ⟨x, hx⟩ : ∃ x, l[k]? = some x := ⟨_, List.getElem?_eq_getElem (by have := HN.out; omega)⟩
   obtain ⟨b, rfl, c0, c1, c2, c3, c4, c5, c6, c7⟩ := (HS.out.later QW.out).at hx
   have wx := HS.out.wide hx
   have hE := hEQ.out x.1 wx.1
   have HN1 := hid hkn
   have HX := hid hx
   have hW2 := hid (fun (h : x.1 = g) => show look l g = x.2 from by
    unfold look
    rw [← h, lk_first HX.out (fun j y hj hy => by rw [h]; exact HLT.out j y hj hy)]
    rfl)
   have hF2 := hid (fun (X : World) (hX : Below W.heap.size W X) (h : x.1 = g) => hfin.out X x.2 hX (hW2.out h))
   unfold wv at hF2
   clear hkn hx wx hk
   generalize lim x.1 0 = x0 at *
   generalize lim x.1 1 = x1 at *
   generalize lim x.1 2 = x2 at *
   generalize lim x.1 3 = x3 at *
   generalize lim x.2 0 = x4 at *
   generalize lim x.2 1 = x5 at *
   generalize lim x.2 2 = x6 at *
   generalize lim x.2 3 = x7 at *
   have N := Has.new wr 63 #[.int .u64 0, .int .u64 0, .int .u64 0, .int .u64 0, .int .u64 0, .int .u64 0, .int .u64 0, .int .u64 0]
   have M := Has.new wr 63 #[.int .u64 x0, .int .u64 x1, .int .u64 x2, .int .u64 x3, .int .u64 x4, .int .u64 x5, .int .u64 x6, .int .u64 x7]
   have qM := newA wr (.cells #[.int .u64 x0, .int .u64 x1, .int .u64 x2, .int .u64 x3, .int .u64 x4, .int .u64 x5, .int .u64 x6, .int .u64 x7] 63)
   have n0 := N.cell 0 _ rfl
   have f0 := N.frozen 0
   have m0 := M.cell 0 _ rfl
   have p0 := M.frozen 0
   have n1 := N.cell 1 _ rfl
   have f1 := N.frozen 1
   have m1 := M.cell 1 _ rfl
   have p1 := M.frozen 1
   have n2 := N.cell 2 _ rfl
   have f2 := N.frozen 2
   have m2 := M.cell 2 _ rfl
   have p2 := M.frozen 2
   have n3 := N.cell 3 _ rfl
   have f3 := N.frozen 3
   have m3 := M.cell 3 _ rfl
   have p3 := M.frozen 3
   have n4 := N.cell 4 _ rfl
   have f4 := N.frozen 4
   have m4 := M.cell 4 _ rfl
   have p4 := M.frozen 4
   have n5 := N.cell 5 _ rfl
   have f5 := N.frozen 5
   have m5 := M.cell 5 _ rfl
   have p5 := M.frozen 5
   have n6 := N.cell 6 _ rfl
   have f6 := N.frozen 6
   have m6 := M.cell 6 _ rfl
   have p6 := M.frozen 6
   have n7 := N.cell 7 _ rfl
   have f7 := N.frozen 7
   have m7 := M.cell 7 _ rfl
   have p7 := M.frozen 7
   have K1 := hid (HK.out.later qM)
   have Z1 := hid (HZ.out.later qM)
   have Q1 := hid (QW.out.trans (qM.mono QW.out.size))
   have Q1' := hid (HQ.out.trans (qM.mono HQ.out.size))
   have k0 := K1.out.cell 0 _ rfl
   have z0 := Z1.out.cell 0 _ rfl
   have y0 := Z1.out.frozen 0
   have k1 := K1.out.cell 1 _ rfl
   have z1 := Z1.out.cell 1 _ rfl
   have y1 := Z1.out.frozen 1
   have k2 := K1.out.cell 2 _ rfl
   have z2 := Z1.out.cell 2 _ rfl
   have y2 := Z1.out.frozen 2
   have k3 := K1.out.cell 3 _ rfl
   have z3 := Z1.out.cell 3 _ rfl
   have y3 := Z1.out.frozen 3
   replace N := hid N
   replace M := hid M
   replace qM := hid qM
   by_cases hxg : x.1 = g
   ·rw [decide_eq_true hxg] at hE
    have S := hid ((((Z1.out.set 0 (.int .u64 x4)).set 1 (.int .u64 x5)).set 2 (.int .u64 x6)).set 3 (.int .u64 x7))
    have QS := hid ((((Q1.out.setCell (p := ⟨W.heap.size + 1, 0, none⟩) (by simp) (.int .u64 x4)).setCell (p := ⟨W.heap.size + 1, 1, none⟩) (by simp) (.int .u64 x5)).setCell (p := ⟨W.heap.size + 1, 2, none⟩) (by simp) (.int .u64 x6)).setCell (p := ⟨W.heap.size + 1, 3, none⟩) (by simp) (.int .u64 x7))
    have HXG := hid hxg
    clear hxg
    go_wp2_with fail
    refine bodyPost_ret (results_h rfl rfl S.out) rfl ?_
    exact hF2.out _ QS.out HXG.out
   ·rw [decide_eq_false hxg] at hE
    have HXG := hid hxg
    clear hxg
    go_wp2_with fail
    go_roundw
    case rel => exact ⟨k + 1, by have := HN1.out; omega, by simp, fun j y hj hy => by
     by_cases hjk : j < k
     ·exact HLT.out j y hjk hy
     ·obtain rfl : j = k := by omega
      rw [HX.out] at hy
      injection hy with hy
      subst hy
      exact HXG.out, Q1'.out⟩
    case measure => have := HN1.out; simp [intOf]; omega
  ·have hknI : ¬ (k : Int) < (n : Int) := by omega
   have hno := hid (show look l g = 0 from by
    unfold look
    rw [lk_no (fun j y hy => HLT.out j y (by have := (List.getElem?_eq_some_iff.1 hy).1; have := HN.out; omega) hy)]
    rfl)
   have hF0 := hid (fun (X : World) (hX : Below W.heap.size W X) => hfin.out X 0 hX hno.out)
   unfold wv at hF0
   simp only [lim_zero] at hF0
   have z0 := HZ.out.cell 0 _ rfl
   have z1 := HZ.out.cell 1 _ rfl
   have z2 := HZ.out.cell 2 _ rfl
   have z3 := HZ.out.cell 3 _ rfl
   have y0 := HZ.out.frozen 0
   have y1 := HZ.out.frozen 1
   have y2 := HZ.out.frozen 2
   have y3 := HZ.out.frozen 3
   have S := hid ((((HZ.out.set 0 (.int .u64 0)).set 1 (.int .u64 0)).set 2 (.int .u64 0)).set 3 (.int .u64 0))
   have QS := hid ((((QW.out.setCell (p := ⟨W.heap.size + 1, 0, none⟩) (by simp) (.int .u64 0)).setCell (p := ⟨W.heap.size + 1, 1, none⟩) (by simp) (.int .u64 0)).setCell (p := ⟨W.heap.size + 1, 2, none⟩) (by simp) (.int .u64 0)).setCell (p := ⟨W.heap.size + 1, 3, none⟩) (by simp) (.int .u64 0))
   go_wp2_with fail
   refine bodyPost_ret (results_h rfl rfl S.out) rfl ?_
   exact hF0.out _ QS.out
end
section
open Go Go.RowKit
attribute [local go_sem] Oper.semAt_some Grows wide_fn
def pickN (c m : Int) : Int := (if c < 0 then -(c + 1) else c) % m
theorem pickN_range (c m : Int) (hm : 0 < m) : 0 ≤ pickN c m ∧ pickN c m < m := by
 unfold pickN
 exact ⟨Int.emod_nonneg _ (by omega), Int.emod_lt_of_pos _ hm⟩
theorem ofN_nat (n : Nat) : ofN (n : Int) = n := by unfold ofN; rw [if_neg (by omega)]; omega
end
section
open Go Go.RowKit
theorem Rise.snoc {l : List Sl} {x : Sl} (h : Rise l) (hx : ∀ y ∈ l, y.1 < x.1) : Rise (l ++ [x]) := by
 unfold Rise at *
 rw [List.pairwise_append]
 exact ⟨h, by simp, fun a ha b hb => by simp at hb; subst hb; exact hx a ha⟩
theorem rise_lt_at {l : List Sl} (h : Rise l) {i j : Nat} {y z : Sl} (hy : l[i]? = some y) (hz : l[j]? = some z) (hij : i < j) : y.1 < z.1 := by
 have := List.pairwise_iff_getElem.1 h i j (List.getElem?_eq_some_iff.1 hy).1 (List.getElem?_eq_some_iff.1 hz).1 hij
 rw [(List.getElem?_eq_some_iff.1 hy).2, (List.getElem?_eq_some_iff.1 hz).2] at this
 exact this
variable {x y : Sl} {l now : List Sl} {k : Nat} {done : Bool}
theorem push_slot (A : World) (base : Nat) (v : Value) (l : List Sl) (h : RowT A base v l) (hb : base ≤ A.heap.size) (hl : l.length ≤ 100000) (y : Sl) :
  ∃ v' w', (Builtin.append_ #[29, 29] 29 #[v, .slice (some ⟨A.heap.size, 0, none⟩) 1 1]).run Tryz.prog (A.alloc (.cells (slC y).toArray 63)) = .ok v' w' ∧ RowT w' base v' (l ++ [y]) ∧ Below base A w' := by
 have NS := Has.new A 63 (slC y).toArray
 have q9 := newA A (.cells (slC y).toArray 63)
 obtain ⟨i, hi, hz, hsize, hby⟩ := infoS_of
 have hrow9 := h.later q9
 obtain ⟨v', w', hr, hown, hgr, hnb⟩ := run_append_src (P := Tryz.prog) (A.alloc (.cells (slC y).toArray 63)) base 29 29 29 63 i _ 8 64 Tryz.underlying29 hi hz hsize hby rfl (by decide) v l.length (flat8 l) hrow9 (.slice (some ⟨A.heap.size, 0, none⟩) 1 1) 1 (by decide) (slC y) (by
  rw [hsize]
  refine Src.ofSlice _ Tryz.underlying29 ⟨A.heap.size, 0, none⟩ 1 1 _ rfl (fun j u hj => ?_) (by simp [slC, Value.oneCell'])
  have ha : (⟨A.heap.size, 0, none⟩ : Addr).add j = ⟨A.heap.size, j, none⟩ := by unfold Addr.add; split <;> simp_all
  rw [ha]
  exact NS.cell j u (by simpa [slC] using hj)) (by omega) (by unfold maxLen; omega) (by have := q9.size; omega)
 refine ⟨v', w', hr, ?_, ?_⟩
 ·unfold RowT
  rw [flat8_snoc, List.length_append]
  exact hown
 ·exact (q9.mono hb).trans ⟨hgr.os, hgr.tape, hgr.output, hgr.size, fun k hk => hgr.block k (by have := q9.size; omega) (fun e => by have := (hrow9.block e.symm).1; omega)⟩
theorem wpList_append_run {P : Program} {w w' : World} {ops : Array Oper} {rest : List Oper} {o : Oper} {a : Act} {Q : Exit → Act → World → Prop}
  (hg : o.guard = none) (s x : Operand) (t : TypeId) (hop : o.op = Op.call { callee := Callee.builtin Builtin.append, args := #[s, x], argTypes := #[t, t] })
  (v x0 v' : Value) (hs : a.eval s = v) (hx : a.eval x = x0) (hr : (Builtin.append_ #[t, t] o.type #[v, x0]).run P w = .ok v' w')
  (hK : wpList P ops Q rest (a.put o.dst v') w') : wpList P ops Q (o :: rest) a w := by
 refine wpList_plain hg fun K hK' => ?_
 unfold Oper.wp execOp
 simp only [hop, resolve, invoke, builtin, Sem.run_bind, Sem.run_pure, Result.andThen_ok, List.map_toArray, List.map_cons, List.map_nil, hs, hx, hr]
 exact hK' _ _ hK
end
section
open Go Go.RowKit
attribute [local go_sem] Oper.semAt_some Grows wide_fn
theorem slC_one8 (x : Sl) : ∀ u ∈ slC x, u.oneCell' = true := by simp [slC, Value.oneCell']
theorem listF_wide8 (w : Pr → Option Nat) (hw : ∀ p v, w p = some v → v = p.fst ∨ v = p.snd) (a b : List Sl) (ha : ∀ x ∈ a, W256 x.1 ∧ W256 x.2) (hb : ∀ x ∈ b, W256 x.1 ∧ W256 x.2) : ∀ x ∈ listF w (bothL a b), W256 x.1 ∧ W256 x.2 := by
 intro x hx
 unfold listF at hx
 obtain ⟨p, hp, e⟩ := List.mem_filterMap.1 hx
 have h := bothL_wide a b ha hb p hp
 rcases hv : w p with _ | v
 ·rw [hv] at e; cases e
 ·rw [hv] at e
  injection e with e
  subst e
  refine ⟨h.1, ?_⟩
  rcases hw p v hv with rfl | rfl
  ·exact h.2.1
  ·exact h.2.2
theorem mergeL_wide8 (a b : List Sl) (ha : ∀ x ∈ a, W256 x.1 ∧ W256 x.2) (hb : ∀ x ∈ b, W256 x.1 ∧ W256 x.2) : ∀ x ∈ mergeL a b, W256 x.1 ∧ W256 x.2 :=
 listF_wide8 _ (fun p v h => by
  rcases p with ⟨k, f, s, i⟩
  cases i
  ·simp [behindF] at h
   exact .inl h.2.symm
  ·simp [behindF] at h
   exact .inr h.2.symm) a b ha hb
theorem of_small8 (n : Nat) (h : n < 1000) : Ret Tryz.prog 27 #[.int .i64 (n : Int)] (.agg #[.int .u64 (lim n 0), .int .u64 (lim n 1), .int .u64 (lim n 2), .int .u64 (lim n 3)]) := by
 have h1 := refOf_ret (n : Int) (by unfold I64; omega)
 rw [show ofN (n : Int) = n by unfold ofN; rw [if_neg (by omega)]; omega] at h1
 exact h1
theorem copy_made (A : World) (sv : Value) (l : List Sl) (h : SlotsAt A sv l) (hl : l.length ≤ 100000) :
  ∃ v' w', (Builtin.append_ #[29, 29] 29 #[.slice (some ⟨A.heap.size, 0, none⟩) 0 0, sv]).run Tryz.prog (A.alloc (.cells #[] 63)) = .ok v' w' ∧ RowT w' A.heap.size v' l ∧ Below A.heap.size A w' := by
 have hb0 := newA A (.cells #[] 63)
 have h0 := World.ownsRow_made (base := A.heap.size) (e := 63) (size := 8) A #[] 0 (Nat.le_refl _) (Nat.zero_le _) rfl
 replace h := h.later hb0
 obtain ⟨A1, hA1⟩ : ∃ A1, A.alloc (.cells #[] 63) = A1 := ⟨_, rfl⟩
 rw [hA1] at hb0 h0 h ⊢
 obtain ⟨a, cap, rfl, h2, h3, h4, h5⟩ := h
 obtain ⟨i, hi, hz, hsize, hby⟩ := infoS_of
 cases l with
 | nil =>
  refine ⟨_, _, run_append_nothing (P := Tryz.prog) A1 29 29 29 63 i Tryz.underlying29 hi (some ⟨A.heap.size, 0, none⟩) 0 0 (Nat.le_refl _) (.slice a 0 cap) ?_, h0, hb0⟩
  cases a with
  | none => exact Src.ofNil _ Tryz.underlying29 cap
  | some b => exact Src.ofSlice _ Tryz.underlying29 b 0 cap [] (by simp) (fun j u hj => by simp at hj) (fun u hu => by cases hu)
 | cons x r =>
  obtain ⟨b, rfl, _⟩ := h5 0 x rfl
  obtain ⟨v', w', hr, hown, hgr, hnb⟩ := run_append_src (P := Tryz.prog) A1 A.heap.size 29 29 29 63 i _ 8 64 Tryz.underlying29 hi hz hsize hby rfl (by decide) (.slice (some ⟨A.heap.size, 0, none⟩) 0 0) 0 [] h0 (.slice (some b) (x :: r).length cap) (x :: r).length (by simp) (flat8 (x :: r)) (by
   rw [hsize]
   refine Src.ofSlice _ Tryz.underlying29 b _ cap _ (flat8_length _) (fun j u hj => ?_) (fun u hu => ?_)
   ·have hj8 : j < (x :: r).length * 8 := by
     have := (List.getElem?_eq_some_iff.1 hj).1
     rwa [flat8_length] at this
    obtain ⟨y, hy⟩ : ∃ y, (x :: r)[j / 8]? = some y := ⟨_, List.getElem?_eq_getElem (by omega)⟩
    obtain ⟨b', hb', hc⟩ := h5 (j / 8) y hy
    injection hb' with hb'
    subst hb'
    have h8 := hc (j % 8) (by omega)
    have hf := flat8_at (x :: r) (j / 8) y (j % 8) hy (by omega)
    rw [Addr.add_add, show j / 8 * 8 + j % 8 = j by omega] at h8
    rw [show j / 8 * 8 + j % 8 = j by omega, hj] at hf
    injection hf with hf
    rw [hf]
    exact h8
   ·obtain ⟨y, _, hy⟩ := List.mem_flatMap.1 hu
    exact slC_one8 y u hy) (by omega) (by unfold maxLen; omega) hb0.size
  refine ⟨v', w', hr, ?_, ?_⟩
  ·unfold RowT
   rw [Nat.zero_add, List.nil_append] at hown
   exact hown
  ·exact hb0.grown hgr hb0.size (by intro k hk; simp [Value.ownBlock] at hk; omega)
theorem clone_slots (W : World) (sv : Value) (l : List Sl) (hs : SlotsAt W sv l) (hl : l.length ≤ 100000) :
  Calls Tryz.prog 59 #[sv] W fun e w' => ∃ v', e = .returned v' ∧ RowT w' W.heap.size v' l ∧ Below W.heap.size W w' := by
 have q22 := fun (w : World) (a : Option Addr) (n c n' c' : Nat) => Lib.run_eql_slice_nil (P := Tryz.prog) w 29 _ a n c n' c' Tryz.underlying29
 have HS := hid hs
 obtain ⟨v', w', hr, hrow, hb⟩ := copy_made W sv l hs hl
 have HR := hid hrow
 have HB := hid hb
 clear hrow hb hl
 obtain ⟨a, cap, rfl, hnc, hcm⟩ := hs.shape
 cases a with
 | none =>
  have h0 : l = [] := by
   cases l with
   | nil => rfl
   | cons x r =>
    obtain ⟨b, e, _⟩ := hs.at (i := 0) (x := x) rfl
    cases e
  subst h0
  clear hr hs hnc hcm
  go_enter Tryz.func59, Tryz.ntmps59
  go_wp2_with fail
  go_ret
  exact ⟨_, rfl, World.ownsRow_nil _ _ _ _, Below.refl _ _⟩
 | some b =>
  obtain ⟨n, hn⟩ : ∃ n, l.length = n := ⟨_, rfl⟩
  rw [hn] at hr ⊢
  clear hs hnc hcm hn
  go_enter Tryz.func59, Tryz.ntmps59
  go_wp2_with (at_builtin; refine wpList_append_run rfl (.tmp 5) (.tmp 6) 29 rfl _ _ _ rfl rfl hr ?_)
  go_ret
  exact ⟨_, rfl, HR.out, HB.out⟩
theorem acC_set (x : Ac) (sv v : Value) : (acC x sv).setIfInBounds 26 v = acC x v := by
 unfold acC
 rw [List.setIfInBounds_toArray]
 unfold acL
 rw [List.set_append_right _ _ (by rw [adL_len]; omega), adL_len]
 rfl
theorem acC_one (x : Ac) (sv : Value) (hs : sv.oneCell' = true) : (acC x sv).all (·.oneCell') = true := by
 rw [Array.all_eq_true_iff_forall_mem]
 intro u hu
 exact acL_one x sv hs u (by simpa [acC] using hu)
theorem below_rowAc {B g : Nat} {w0 w : World} (hb : Below B w0 w) (hBg : B ≤ g) (cs : Array Value) : Below B w0 (w.setRow g cs) :=
 hb.trans ⟨rfl, rfl, rfl, by simp [World.setRow], fun k hk => setRow_other w g k cs (by omega)⟩
theorem RowT.setAc {W : World} {base : Nat} {v : Value} {l : List Sl} {B : Nat} {cs : Array Value} (h : RowT W base v l) (hB : Has W B 31 cs) (k : Nat) (u : Value) : RowT (W.setCell ⟨B, k, none⟩ u) base v l :=
 h.keep fun b c _ hb => (Below.heap_setCell W ⟨B, k, none⟩ u b (fun e => by
  subst e
  have := hB.symm.trans hb
  injection this with this
  injection this with _ this _
  exact absurd this (by decide))).trans hb
theorem RowT.rowAc {W : World} {base : Nat} {v : Value} {l : List Sl} {B : Nat} {cs : Array Value} (h : RowT W base v l) (hB : Has W B 31 cs) (u : Array Value) : RowT (W.setRow B u) base v l :=
 h.keep fun b c _ hb => (setRow_other W B b u (fun e => by
  subst e
  have := hB.symm.trans hb
  injection this with this
  injection this with _ this _
  exact absurd this (by decide))).trans hb
theorem own_any (W : World) (x : Ac) (sv : Value) (hs : SlotsAt W sv x.slots) (hl : x.slots.length ≤ 100000) :
  Calls Tryz.prog 37 #[.agg (acC x sv)] W fun e w' => ∃ sv', e = .returned (.agg (acC x sv')) ∧ RowT w' W.heap.size sv' x.slots ∧ Below W.heap.size W w' := by
 have hB := Has.new W 31 (acC x sv)
 have hq := newA W (.cells (acC x sv) 31)
 have HS := hid hs
 obtain ⟨V, hV⟩ : ∃ V, W.alloc (.cells (acC x sv) 31) = V := ⟨_, rfl⟩
 rw [hV] at hB hq
 obtain ⟨V2, hV2, hB2, hq2⟩ := newK0 V
 have HVW := hid hB.lt
 have hb := hB.later hq2
 obtain ⟨_, _, _, _, _, _, c26⟩ := hb.acc
 have Q2 := hid (hq.trans (hq2.mono hq.size))
 have HC := hid (clone_slots V2 sv x.slots (hs.later Q2.out) hl)
 have B1 := hid hb
 have B2 := hid hB2
 clear hb hB hq hq2 hB2 hl hs
 go_enter Tryz.func37, Tryz.ntmps37
 go_wp2_with fail
 refine HC.out.mono ?_
 rintro _ w3 ⟨sv', rfl, hs', hb3⟩
 obtain ⟨a', cap', rfl⟩ := hs'.shape
 have S' := hid hs'
 have HW' := hid HS.out.wideAll
 have f26 := (B1.out.later hb3).frozen 26
 have k26 := (B1.out.later hb3).cell 26 sv (acC_more x sv 6)
 have Q3 := hid (Q2.out.trans (hb3.mono Q2.out.size))
 have B3 := hid (B1.out.later hb3)
 have B4 := hid (B2.out.later hb3)
 obtain ⟨n, hn⟩ : ∃ n, x.slots.length = n := ⟨_, rfl⟩
 rw [hn]
 have HN := hid hn
 rw [hn] at S'
 clear hn
 have h4 : Has (w3.setCell ⟨W.heap.size, 26, none⟩ (.slice a' n cap')) W.heap.size 31 (acC x (.slice a' n cap')) := by
  have := B3.out.set 26 (.slice a' n cap')
  rwa [acC_set] at this
 have h42 : Has (w3.setCell ⟨W.heap.size, 26, none⟩ (.slice a' n cap')) V.heap.size 31 #[.int .u8 0, .int .u8 0, .int .u8 0, .int .u8 0, .int .u8 0, .int .u8 0, .int .u8 0, .int .u8 0, .int .u8 0, .int .u8 0, .int .u8 0, .int .u8 0, .int .u8 0, .int .u8 0, .int .u8 0, .int .u8 0, .int .u8 0, .int .u8 0, .int .u8 0, .int .u8 0, .int .u64 0, .int .u64 0, .int .u64 0, .int .u64 0, .int .i64 0, .string { data := #[] }, .slice none 0 0] := B4.out.other (by show V.heap.size ≠ W.heap.size; have := HVW.out; omega) _
 have Q4 := hid (Below.setCell Q3.out (p := ⟨W.heap.size, 26, none⟩) (Nat.le_refl _) (.slice a' n cap'))
 have S4 := hid (S'.out.setAc B3.out 26 (.slice a' n cap'))
 have hl4 := h4.accLoad
 have h5 : Has ((w3.setCell ⟨W.heap.size, 26, none⟩ (.slice a' n cap')).setRow V.heap.size (acC x (.slice a' n cap'))) V.heap.size 31 (acC x (.slice a' n cap')) := setRow_heap _ _ _ _ _ _ h42
 have Q5 := hid (below_rowAc Q4.out (g := V.heap.size) (by have := HVW.out; omega) (acC x (.slice a' n cap')))
 have S5 := hid (S4.out.rowAc h42 (acC x (.slice a' n cap')))
 have hl5 := h5.accLoad
 have hi5 : (Tryz.prog.info? 31).map (·.size) = some (acC x (.slice a' n cap')).size := by rw [acC_size]; exact infoAc
 have ho5 : (#[.int .u8 0, .int .u8 0, .int .u8 0, .int .u8 0, .int .u8 0, .int .u8 0, .int .u8 0, .int .u8 0, .int .u8 0, .int .u8 0, .int .u8 0, .int .u8 0, .int .u8 0, .int .u8 0, .int .u8 0, .int .u8 0, .int .u8 0, .int .u8 0, .int .u8 0, .int .u8 0, .int .u64 0, .int .u64 0, .int .u64 0, .int .u64 0, .int .i64 0, .string { data := #[] }, .slice none 0 0] : Array Value).size = (acC x (.slice a' n cap')).size := by rw [acC_size]; rfl
 have ha5 := acC_one x (.slice a' n cap') rfl
 clear hs' HC c26 hV hV2 h4 hb3
 go_wp2_with (first | (refine wpList_load_known rfl _ _ rfl _ rfl _ hl4 ?_) | (refine wpList_store_row rfl _ _ _ rfl _ _ rfl rfl _ _ h42 hi5 ho5 ha5 ?_))
 try simp only [Exit.inBlock, Exit.then]
 refine bodyPost_ret (results_cell_row rfl _ _ V.heap.size 31 _ (0, 0) _ rfl h5 Tryz.underlying31 rfl hi5) rfl ?_
 have S6 := S5.out.lower Q2.out.size
 exact ⟨_, rfl, S6, Q5.out⟩
theorem Has.adLoad {W : World} {B n : Nat} (h : Has W B 25 (adC n)) : (loadVar 25 ⟨B, 0, none⟩).run Tryz.prog W = .ok (.agg (adC n)) W :=
 run_loadVar_row _ _ _ _ _ (0, 0) _ h Tryz.underlying25 rfl (by rw [adC_size]; exact infoAd)
def SeekP (l : List Ac) (t k : Nat) : Prop := k ≤ l.length ∧ (∀ j x, j < k → l[j]? = some x → x.at_ < t) ∧ (∀ j x, k ≤ j → l[j]? = some x → t ≤ x.at_)
theorem Ups.lt {l : List Ac} (h : Ups l) {i j : Nat} {x y : Ac} (hij : i < j) (hx : l[i]? = some x) (hy : l[j]? = some y) : x.at_ < y.at_ := by
 obtain ⟨h1, rfl⟩ := List.getElem?_eq_some_iff.1 hx
 obtain ⟨h2, rfl⟩ := List.getElem?_eq_some_iff.1 hy
 exact List.pairwise_iff_getElem.1 h i j h1 h2 hij
theorem search_any (W : World) (sv : Value) (l : List Ac) (hs : StAt W sv l) (hu : Ups l) (t : Nat) (ht : t < 256 ^ 20) (hl : l.length ≤ 100000) :
  Calls Tryz.prog 60 #[sv, .agg (adC t), .func (.func 54) #[] #[]] W fun e w' => ∃ k : Nat, SeekP l t k ∧ (∃ is : Bool, (is = true ↔ ∃ x, l[k]? = some x ∧ x.at_ = t) ∧ e = .returned (.tuple #[.int .i64 (k : Int), .bool is])) ∧ Below W.heap.size W w' := by
 have hmx : Tryz.prog.follows .mixedOrders = true := by kernel_rfl
 have hB := Has.new W 25 (adC t)
 have hq0 := newA W (.cells (adC t) 25)
 obtain ⟨V, hV⟩ : ∃ V, W.alloc (.cells (adC t) 25) = V := ⟨_, rfl⟩
 rw [hV] at hB hq0
 have B := hid hB
 have Q0 := hid hq0
 have HT := hid ht
 have HU := hid hu
 obtain ⟨a, cap, rfl, hnc, hcm⟩ := hs.shape
 have HS := hid (hs.later hq0)
 obtain ⟨n, hn⟩ : ∃ n, l.length = n := ⟨_, rfl⟩
 rw [hn] at HS hl
 have HN := hid hn
 have HL := hid hl
 rw [hn]
 clear hs hnc hcm hn hl hB hq0 ht hu
 go_enter Tryz.func60, Tryz.ntmps60
 have HAD := hid (fun (X : World) (hX : Below V.heap.size V X) => (B.out.later hX).adLoad)
 have KO := hid (fun (X : World) (x : Ac) (sx : Value) (hx : AcOk x) => order_any X x sx hx t HT.out)
 generalize adC t = ct at *
 go_wp2_with fail
 go_loopw [9, 10] (fun i j wr => ∃ lo hi : Nat, i = .int .i64 (lo : Int) ∧ j = .int .i64 (hi : Int) ∧ lo ≤ hi ∧ hi ≤ n ∧ (∀ j x, j < lo → l[j]? = some x → x.at_ < t) ∧ (∀ j x, hi ≤ j → l[j]? = some x → t ≤ x.at_) ∧ Below V.heap.size V wr) (fun i j _ => (intOf j).toNat - (intOf i).toNat)
 case atStart => exact ⟨0, n, rfl, rfl, by omega, by omega, fun j x h => absurd h (by omega), fun j x h hx => absurd (List.getElem?_eq_some_iff.1 hx).1 (by have := HN.out; omega), Below.refl _ _⟩
 case round =>
  obtain ⟨lo, hi, rfl, rfl, hlh, hin, h1, h2, hv⟩ := hrel
  have H1 := hid h1
  have H2 := hid h2
  have HV := hid hv
  have HQ := hid hv
  clear h1 h2 hv
  have hhb : (hi : Int) ≤ 100000 := by have := HL.out; omega
  have hlb : (lo : Int) ≤ 100000 := by omega
  by_cases hlt : lo < hi
  ·have hltI : (lo : Int) < (hi : Int) := by omega
   obtain ⟨m, hm⟩ : ∃ m, (lo + hi) / 2 = m := ⟨_, rfl⟩
   have hmI : ((lo : Int) + (hi : Int)) / 2 = (m : Int) := by omega
   have hmn : (m : Int) < (n : Int) := by omega
   have hmN : m < n := by omega
   have HM := hid (And.intro hm (And.intro hlt hin))
   obtain ⟨x, hx⟩ : ∃ x, l[m]? = some x := ⟨_, List.getElem?_eq_getElem (by have := HN.out; omega)⟩
   obtain ⟨b, sx, rfl, ax⟩ := (HS.out.later HQ.out).at hx
   have LX := hid (show ∀ z : World, Grows wr z → (loadVar 31 (b.add (m * 27))).run Tryz.prog z = .ok (.agg (acC x sx)) z from fun z hz => by obtain ⟨q, rfl⟩ := hz; exact (ax.later q.below).load)
   have LT := hid (show ∀ z : World, Grows wr z → (loadVar 25 ⟨W.heap.size, 0, none⟩).run Tryz.prog z = .ok (.agg ct) z from fun z hz => by obtain ⟨q, rfl⟩ := hz; exact HAD.out _ (HV.out.trans (q.below.mono HV.out.size)))
   have K3 := hid (fun z : Ext wr => Ext.at (KO.out z.w x sx (HS.out.ok hx)))
   have hcge := hid (acmp_ge x.at_ t)
   have hceq := hid (acmp_zero x.at_ t)
   generalize acmp x.at_ t = c at *
   generalize acC x sx = cx at *
   have HX := hid hx
   clear hx ax
   clear hm hlt hin hlh hmN
   by_cases hc0 : 0 ≤ c
   ·have hcn : ¬ c < 0 := by omega
    go_wp2_with fail
    refine wp_region_quietL (C := Grows wr) hmx (by kernel_rfl) (grows_refl wr) ?_
    repeat (first | (with_reducible refine wpQuiet_load rfl 31 _ rfl _ rfl _ LX.out ?_; simp only [Act.put, sT, sS, sZ]) | (with_reducible refine wpQuiet_load rfl 25 _ rfl _ rfl _ LT.out ?_; simp only [Act.put, sT, sS, sZ]) | (go_big_quiet_step (first | (with_reducible exact K3.out _))))
    refine wpQuiet_nil ?_
    rintro _ ⟨z, rfl⟩
    have HE := hid (HQ.out.trans (z.below.mono HQ.out.size))
    clear LX LT K3
    go_wp2_with fail
    go_roundw
    case rel => exact ⟨lo, m, rfl, rfl, by have := HM.out; omega, by have := HM.out; omega, H1.out, fun j y hj hy => by
     have h0 := hcge.out.1 hc0
     rcases Nat.lt_or_ge m j with h | h
     ·exact Nat.le_of_lt (Nat.lt_of_le_of_lt h0 (HU.out.lt h HX.out hy))
     ·obtain rfl : j = m := by omega
      have e := hy.symm.trans HX.out
      injection e with e
      rw [e]
      exact h0, HE.out⟩
    case measure => have := HM.out; simp [intOf]; omega
   ·have hcn : c < 0 := by omega
    have HC0 := hid hc0
    clear hc0
    go_wp2_with fail
    refine wp_region_quietL (C := Grows wr) hmx (by kernel_rfl) (grows_refl wr) ?_
    repeat (first | (with_reducible refine wpQuiet_load rfl 31 _ rfl _ rfl _ LX.out ?_; simp only [Act.put, sT, sS, sZ]) | (with_reducible refine wpQuiet_load rfl 25 _ rfl _ rfl _ LT.out ?_; simp only [Act.put, sT, sS, sZ]) | (go_big_quiet_step (first | (with_reducible exact K3.out _))))
    refine wpQuiet_nil ?_
    rintro _ ⟨z, rfl⟩
    have HE := hid (HQ.out.trans (z.below.mono HQ.out.size))
    clear LX LT K3
    go_wp2_with fail
    go_roundw
    case rel => exact ⟨m + 1, hi, by simp, rfl, by have := HM.out; omega, by have := HM.out; omega, fun j y hj hy => by
     have h0 : x.at_ < t := Nat.lt_of_not_le (fun h => by have h1 := hcge.out.2 h; have h2 := HC0.out; omega)
     rcases Nat.lt_or_ge j m with h | h
     ·exact Nat.lt_trans (HU.out.lt h hy HX.out) h0
     ·obtain rfl : j = m := by omega
      have e := hy.symm.trans HX.out
      injection e with e
      rw [e]
      exact h0, H2.out, HE.out⟩
    case measure => have := HM.out; simp [intOf]; omega
  ·obtain rfl : lo = hi := by omega
   clear hlt
   have HSK := hid (show SeekP l t lo from ⟨by have := HN.out; omega, H1.out, H2.out⟩)
   have QW := hid (Q0.out.trans (HQ.out.mono Q0.out.size))
   by_cases hln : lo < n
   ·have hlnI : (lo : Int) < (n : Int) := by omega
    obtain ⟨x, hx⟩ : ∃ x, l[lo]? = some x := ⟨_, List.getElem?_eq_getElem (by have := HN.out; omega)⟩
    obtain ⟨b, sx, rfl, ax⟩ := (HS.out.later HQ.out).at hx
    have LX := hid (show ∀ z : World, Grows wr z → (loadVar 31 (b.add (lo * 27))).run Tryz.prog z = .ok (.agg (acC x sx)) z from fun z hz => by obtain ⟨q, rfl⟩ := hz; exact (ax.later q.below).load)
    have LT := hid (show ∀ z : World, Grows wr z → (loadVar 25 ⟨W.heap.size, 0, none⟩).run Tryz.prog z = .ok (.agg ct) z from fun z hz => by obtain ⟨q, rfl⟩ := hz; exact HAD.out _ (HV.out.trans (q.below.mono HV.out.size)))
    have K3 := hid (fun z : Ext wr => Ext.at (KO.out z.w x sx (HS.out.ok hx)))
    have hcge := hid (acmp_ge x.at_ t)
    have hceq := hid (acmp_zero x.at_ t)
    generalize acmp x.at_ t = c at *
    generalize acC x sx = cx at *
    have HX := hid hx
    clear hx ax
    have HLI := hid hln
    clear hln hin
    by_cases hc0 : c = 0
    ·have HIS := hid (show (true = true ↔ ∃ x, l[lo]? = some x ∧ x.at_ = t) from ⟨fun _ => ⟨x, HX.out, hceq.out.1 hc0⟩, fun _ => rfl⟩)
     clear hcge hceq
     subst hc0
     go_wp2_with fail
     refine wp_region_quietL (C := Grows wr) hmx (by kernel_rfl) (grows_refl wr) ?_
     repeat (first | (with_reducible refine wpQuiet_load rfl 31 _ rfl _ rfl _ LX.out ?_; simp only [Act.put, sT, sS, sZ]) | (with_reducible refine wpQuiet_load rfl 25 _ rfl _ rfl _ LT.out ?_; simp only [Act.put, sT, sS, sZ]) | (go_big_quiet_step (first | (with_reducible exact K3.out _))))
     refine wpQuiet_nil ?_
     rintro _ ⟨z, rfl⟩
     have HE := hid (QW.out.trans (z.below.mono QW.out.size))
     clear LX LT K3
     go_wp2_with fail
     go_ret2
     exact ⟨lo, HSK.out, ⟨true, by simpa using HIS.out, rfl⟩, HE.out⟩
    ·have hc1 : (c == 0) = false := by simpa using hc0
     have hc2 : decide (c = 0) = false := by simpa using hc0
     have HIS := hid (show (false = true ↔ ∃ x, l[lo]? = some x ∧ x.at_ = t) from ⟨fun h => absurd h (by decide), fun ⟨y, hy, h⟩ => by
      have e := hy.symm.trans HX.out
      injection e with e
      subst e
      exact absurd (hceq.out.2 h) hc0⟩)
     clear hcge hceq
     go_wp2_with fail
     refine wp_region_quietL (C := Grows wr) hmx (by kernel_rfl) (grows_refl wr) ?_
     repeat (first | (with_reducible refine wpQuiet_load rfl 31 _ rfl _ rfl _ LX.out ?_; simp only [Act.put, sT, sS, sZ]) | (with_reducible refine wpQuiet_load rfl 25 _ rfl _ rfl _ LT.out ?_; simp only [Act.put, sT, sS, sZ]) | (go_big_quiet_step (first | (with_reducible exact K3.out _))))
     refine wpQuiet_nil ?_
     rintro _ ⟨z, rfl⟩
     have HE := hid (QW.out.trans (z.below.mono QW.out.size))
     clear LX LT K3
     go_wp2_with fail
     go_ret2
     exact ⟨lo, HSK.out, ⟨false, HIS.out, rfl⟩, HE.out⟩
   ·have hlnI : ¬ (lo : Int) < (n : Int) := by omega
    have HIS := hid (show (false = true ↔ ∃ x, l[lo]? = some x ∧ x.at_ = t) from ⟨fun h => absurd h (by decide), fun ⟨y, hy, h⟩ => absurd (List.getElem?_eq_some_iff.1 hy).1 (by have := HN.out; omega)⟩)
    go_wp2_with fail
    refine wp_region_quietL (C := Grows wr) hmx (by kernel_rfl) (grows_refl wr) ?_
    repeat (go_big_quiet_step (fail))
    refine wpQuiet_nil ?_
    rintro _ ⟨z, rfl⟩
    have HE := hid (QW.out.trans (z.below.mono QW.out.size))
    go_wp2_with fail
    go_ret2
    exact ⟨lo, HSK.out, ⟨false, HIS.out, rfl⟩, HE.out⟩
end
section
open Go Go.RowKit
theorem choose_list {α β : Type} : ∀ (l : List α) (P : Nat → α → β → Prop), (∀ i x, l[i]? = some x → ∃ y, P i x y) → ∃ ps : List (α × β), ps.map (·.1) = l ∧ ∀ i p, ps[i]? = some p → P i p.1 p.2
 | [], P, _ => ⟨[], rfl, fun i p h => by simp at h⟩
 | x :: l, P, h => by
  obtain ⟨y, hy⟩ := h 0 x rfl
  obtain ⟨ps, e, hp⟩ := choose_list l (fun i => P (i + 1)) (fun i z hz => h (i + 1) z (by simpa using hz))
  refine ⟨(x, y) :: ps, by simp [e], fun i p hi => ?_⟩
  cases i with
  | zero => simp at hi; subst hi; exact hy
  | succ i => exact hp i p (by simpa using hi)
abbrev Pa := Ac × Value
def flatA (ps : List Pa) : List Value := ps.flatMap fun p => acL p.1 p.2
theorem flatA_len : ∀ (ps : List Pa), (flatA ps).length = ps.length * 27
 | [] => rfl
 | p :: ps => by
  have := flatA_len ps
  simp only [flatA, List.flatMap_cons, List.length_append, List.length_cons, acL_len] at this ⊢
  rw [this]
  omega
theorem flatA_append (ps qs : List Pa) : flatA (ps ++ qs) = flatA ps ++ flatA qs := by simp [flatA]
theorem flatA_at : ∀ (ps : List Pa) (i : Nat) (p : Pa) (j : Nat), ps[i]? = some p → j < 27 → (flatA ps)[i * 27 + j]? = (acL p.1 p.2)[j]?
 | [], i, p, j, h, _ => by simp at h
 | q :: ps, 0, p, j, h, hj => by
  simp at h
  subst h
  rw [show flatA (q :: ps) = acL q.1 q.2 ++ flatA ps from rfl, List.getElem?_append_left (by rw [acL_len]; omega), Nat.zero_mul, Nat.zero_add]
 | q :: ps, i + 1, p, j, h, hj => by
  rw [show flatA (q :: ps) = acL q.1 q.2 ++ flatA ps from rfl, List.getElem?_append_right (by rw [acL_len]; omega), acL_len, show (i + 1) * 27 + j - 27 = i * 27 + j by omega]
  exact flatA_at ps i p j (by simpa using h) hj
def RowIn (W : World) (v : Value) (ps : List Pa) : Prop :=
 ∃ a cap, v = .slice a ps.length cap ∧ ps.length ≤ cap ∧ cap ≤ 9223372036854775807 ∧ ∀ (i : Nat) (p : Pa), ps[i]? = some p → ∃ b, a = some b ∧ ∀ (j : Nat) (u : Value), (acL p.1 p.2)[j]? = some u → W.cell? ((b.add (i * 27)).add j) = some u
theorem RowIn.later {W X : World} {v : Value} {ps : List Pa} (h : RowIn W v ps) (hb : Below W.heap.size W X) : RowIn X v ps := by
 obtain ⟨a, cap, h1, h2, h3, h5⟩ := h
 refine ⟨a, cap, h1, h2, h3, fun i x hx => ?_⟩
 obtain ⟨b, e, hc⟩ := h5 i x hx
 exact ⟨b, e, fun j u hj => cell_below hb _ _ (hc j u hj)⟩
theorem StAt.pairs {W : World} {v : Value} {l : List Ac} (h : StAt W v l) : ∃ ps : List Pa, ps.map (·.1) = l ∧ RowIn W v ps ∧ ∀ p ∈ ps, AcOk p.1 ∧ SlotsAt W p.2 p.1.slots := by
 obtain ⟨a, cap, h1, h2, h3, h4, h5⟩ := h
 obtain ⟨ps, e, hp⟩ := choose_list l (fun i x sv => ∃ b, a = some b ∧ SlotsAt W sv x.slots ∧ ∀ (j : Nat) (u : Value), (acL x sv)[j]? = some u → W.cell? ((b.add (i * 27)).add j) = some u) (fun i x hx => by
  obtain ⟨b, sv, e, hs, hc⟩ := h5 i x hx
  exact ⟨sv, b, e, hs, hc⟩)
 have hlen : ps.length = l.length := by rw [← e, List.length_map]
 refine ⟨ps, e, ⟨a, cap, by rw [hlen]; exact h1, by omega, h3, fun i p hi => ?_⟩, fun p hm => ?_⟩
 ·obtain ⟨b, e, _, hc⟩ := hp i p hi
  exact ⟨b, e, hc⟩
 ·obtain ⟨i, hi⟩ := List.getElem?_of_mem hm
  obtain ⟨b, _, hs, _⟩ := hp i p hi
  exact ⟨h4 p.1 (by rw [← e]; exact List.mem_map.2 ⟨p, hm, rfl⟩), hs⟩
theorem RowIn.st {W : World} {v : Value} {ps : List Pa} (h : RowIn W v ps) (hw : ∀ p ∈ ps, AcOk p.1 ∧ SlotsAt W p.2 p.1.slots) : StAt W v (ps.map (·.1)) := by
 obtain ⟨a, cap, h1, h2, h3, h5⟩ := h
 refine ⟨a, cap, by rw [List.length_map]; exact h1, by rw [List.length_map]; exact h2, h3, fun x hx => ?_, fun i x hx => ?_⟩
 ·obtain ⟨p, hp, rfl⟩ := List.mem_map.1 hx
  exact (hw p hp).1
 ·rw [List.getElem?_map] at hx
  obtain ⟨p, hp, rfl⟩ := Option.map_eq_some_iff.1 hx
  obtain ⟨b, e, hc⟩ := h5 i p hp
  exact ⟨b, p.2, e, (hw p (List.mem_of_getElem? hp)).2, hc⟩
def RowA (W : World) (base : Nat) (v : Value) (ps : List Pa) : Prop := W.ownsRow base 31 27 v ps.length (flatA ps)
theorem RowA.in {W : World} {base : Nat} {v : Value} {ps : List Pa} (h : RowA W base v ps) : RowIn W v ps := by
 rcases h.2 with ⟨rfl, h0⟩ | ⟨g, cap, cur, rfl, hbg, hg', hnc, hcm, hcs, htake⟩
 ·have : ps = [] := List.eq_nil_of_length_eq_zero h0
  subst this
  exact ⟨none, 0, rfl, by simp, by omega, fun i p hp => by simp at hp⟩
 ·refine ⟨some ⟨g, 0, none⟩, cap, rfl, hnc, by simpa [maxLen] using hcm, fun i p hp => ⟨⟨g, 0, none⟩, rfl, fun j u hj => ?_⟩⟩
  have hj27 : j < 27 := by
   have := (List.getElem?_eq_some_iff.1 hj).1
   rwa [acL_len] at this
  rw [Addr.add_add]
  exact World.ownsRow.cells h (g := g) rfl _ _ (by rw [flatA_at ps i p j hp hj27]; exact hj)
theorem RowA.keep {A X : World} {base : Nat} {v : Value} {ps : List Pa} (h : RowA A base v ps) (hk : ∀ b cs, base ≤ b → A.heap[b]? = some (.cells cs 31 (0, 0)) → X.heap[b]? = some (.cells cs 31 (0, 0))) : RowA X base v ps := by
 refine ⟨h.1, ?_⟩
 rcases h.2 with h' | ⟨g, cap, cur, e1, e2, e3, e4⟩
 ·exact .inl h'
 ·exact .inr ⟨g, cap, cur, e1, e2, hk g _ e2 e3, e4⟩
theorem RowA.later {A X : World} {base : Nat} {v : Value} {ps : List Pa} (h : RowA A base v ps) (hb : Below A.heap.size A X) : RowA X base v ps :=
 h.keep (fun b _ _ ho => (hb.block b (Array.getElem?_eq_some_iff.1 ho).1).trans ho)
theorem RowA.nil (W : World) (base : Nat) : RowA W base (.slice none 0 0) [] := World.ownsRow_nil _ _ _ _
theorem RowA.shape {W : World} {base : Nat} {v : Value} {ps : List Pa} (h : RowA W base v ps) : ∃ a c, v = .slice a ps.length c := by
 rcases h.2 with ⟨rfl, h0⟩ | ⟨g, cap, cur, rfl, _⟩
 ·exact ⟨none, 0, by rw [h0]⟩
 ·exact ⟨_, _, rfl⟩
theorem RowA.block {W : World} {base : Nat} {v : Value} {ps : List Pa} (h : RowA W base v ps) {b : Nat} (hb : v.ownBlock = some b) : base ≤ b ∧ ∃ cs, W.heap[b]? = some (.cells cs 31 (0, 0)) := by
 rcases h.2 with ⟨rfl, h0⟩ | ⟨g, cap, cur, rfl, hbg, hg', _⟩
 ·cases hb
 ·injection hb with hb
  subst hb
  exact ⟨hbg, cur, hg'⟩
theorem infoA_of : ∃ i z, Tryz.prog.info? 31 = some i ∧ i.zero = some z ∧ z.cells.size = 27 ∧ i.size = 27 ∧ i.bytes = 104 := by
 have h : (Tryz.prog.info? 31).map (fun i => (i.zero.map (·.cells.size), i.size, i.bytes)) = some (some 27, 27, 104) := by kernel_rfl
 rcases hi : Tryz.prog.info? 31 with _ | i
 ·rw [hi] at h; cases h
 ·rw [hi] at h
  injection h with h
  simp only [Prod.mk.injEq] at h
  obtain ⟨h1, h2, h3⟩ := h
  obtain ⟨z, hz, hc⟩ := Option.map_eq_some_iff.1 h1
  exact ⟨i, z, rfl, hz, hc, h2, h3⟩
theorem append_acs (A : World) (base : Nat) (v : Value) (ps : List Pa) (h : RowA A base v ps) (hb : base ≤ A.heap.size) (sv : Value) (qs : List Pa) (hq : RowIn A sv qs) (h1 : ∀ p ∈ qs, p.2.oneCell' = true) (hl : ps.length + qs.length ≤ 100000) :
  ∃ v' w', (Builtin.append_ #[22, 22] 22 #[v, sv]).run Tryz.prog A = .ok v' w' ∧ RowA w' base v' (ps ++ qs) ∧ A.grownBy w' v.ownBlock ∧ Below base A w' := by
 obtain ⟨i, z, hi, hz, hzs, hsize, hby⟩ := infoA_of
 have bel : ∀ w', A.grownBy w' v.ownBlock → Below base A w' := fun w' hgr => ⟨hgr.os, hgr.tape, hgr.output, hgr.size, fun k hk => hgr.block k (by omega) (fun e => by have := (h.block e.symm).1; omega)⟩
 obtain ⟨a, cap, rfl, h2, h3, h5⟩ := hq
 cases qs with
 | nil =>
  obtain ⟨av, cv, rfl⟩ := h.shape
  have hr := run_append_nothing (P := Tryz.prog) A 22 22 22 31 i Tryz.underlying22 hi av ps.length cv (by
   rcases h.2 with ⟨e, h0⟩ | ⟨g, cap, cur, e, hbg, hg', hnc, _⟩
   ·injection e with _ _ e; omega
   ·injection e with _ _ e; subst e; exact hnc) (.slice a 0 cap) (by
   cases a with
   | none => exact Src.ofNil _ Tryz.underlying22 cap
   | some b => exact Src.ofSlice _ Tryz.underlying22 b 0 cap [] (by simp) (fun j u hj => by simp at hj) (fun u hu => by cases hu))
  refine ⟨_, _, hr, by rw [List.append_nil]; exact h, ⟨rfl, rfl, rfl, Nat.le_refl _, fun _ _ _ => rfl⟩, Below.refl _ _⟩
 | cons q r =>
  obtain ⟨b, rfl, _⟩ := h5 0 q rfl
  obtain ⟨v', w', hr, hown, hgr, hnb⟩ := run_append_src (P := Tryz.prog) A base 22 22 22 31 i z 27 104 Tryz.underlying22 hi hz hsize hby hzs (by decide) v ps.length (flatA ps) h (.slice (some b) (q :: r).length cap) (q :: r).length (by simp) (flatA (q :: r)) (by
   rw [hsize]
   refine Src.ofSlice _ Tryz.underlying22 b _ cap _ (flatA_len _) (fun j u hj => ?_) (fun u hu => ?_)
   ·have hj8 : j < (q :: r).length * 27 := by
     have := (List.getElem?_eq_some_iff.1 hj).1
     rwa [flatA_len] at this
    obtain ⟨y, hy⟩ : ∃ y, (q :: r)[j / 27]? = some y := ⟨_, List.getElem?_eq_getElem (by omega)⟩
    obtain ⟨b', hb', hc⟩ := h5 (j / 27) y hy
    injection hb' with hb'
    subst hb'
    have hf := flatA_at (q :: r) (j / 27) y (j % 27) hy (by omega)
    rw [show j / 27 * 27 + j % 27 = j by omega, hj] at hf
    have h8 := hc (j % 27) u hf.symm
    rwa [Addr.add_add, show j / 27 * 27 + j % 27 = j by omega] at h8
   ·obtain ⟨y, hy, hu'⟩ := List.mem_flatMap.1 hu
    exact acL_one y.1 y.2 (h1 y hy) u hu') (by omega) (by unfold maxLen; omega) hb
  refine ⟨v', w', hr, ?_, hgr, bel w' hgr⟩
  unfold RowA
  rw [flatA_append, List.length_append]
  exact hown
noncomputable def putA (l : List Ac) (x : Ac) : List Ac := l.filter (fun y => decide (y.at_ < x.at_)) ++ (if emptyB x = true then [] else [x]) ++ l.filter (fun y => decide (x.at_ < y.at_))
theorem seek_take {l : List Ac} {t k : Nat} (h : SeekP l t k) : l.take k = l.filter (fun y => decide (y.at_ < t)) := by
 obtain ⟨hk, h1, h2⟩ := h
 have e := List.filter_append (p := fun y : Ac => decide (y.at_ < t)) (l.take k) (l.drop k)
 rw [List.take_append_drop] at e
 rw [e, List.filter_eq_self.2 (fun y hy => by
  obtain ⟨j, hj⟩ := List.getElem?_of_mem hy
  rw [List.getElem?_take] at hj
  split at hj
  ·rename_i hjk
   exact decide_eq_true (h1 j y hjk hj)
  ·cases hj), List.filter_eq_nil_iff.2 (fun y hy => by
  obtain ⟨j, hj⟩ := List.getElem?_of_mem hy
  rw [List.getElem?_drop] at hj
  have := h2 (k + j) y (by omega) hj
  simp
  omega), List.append_nil]
theorem seek_drop {l : List Ac} {t k : Nat} (h : SeekP l t k) (hu : Ups l) (d : Nat) (hd : (∃ x, l[k]? = some x ∧ x.at_ = t) ∧ d = 1 ∨ (¬ ∃ x, l[k]? = some x ∧ x.at_ = t) ∧ d = 0) : l.drop (k + d) = l.filter (fun y => decide (t < y.at_)) := by
 obtain ⟨hk, h1, h2⟩ := h
 have e := List.filter_append (p := fun y : Ac => decide (t < y.at_)) (l.take (k + d)) (l.drop (k + d))
 rw [List.take_append_drop] at e
 rw [e, List.filter_eq_nil_iff.2 (fun y hy => by
  obtain ⟨j, hj⟩ := List.getElem?_of_mem hy
  rw [List.getElem?_take] at hj
  split at hj
  ·rename_i hjk
   rcases hd with ⟨⟨x, hx, hxt⟩, rfl⟩ | ⟨_, rfl⟩
   ·rcases Nat.lt_or_ge j k with hlt | hge
    ·have := h1 j y hlt hj
     simp
     omega
    ·obtain rfl : j = k := by omega
     rw [hx] at hj
     injection hj with hj
     subst hj
     simp
     omega
   ·have := h1 j y (by omega) hj
    simp
    omega
  ·cases hj), List.nil_append, List.filter_eq_self.2 (fun y hy => by
  obtain ⟨j, hj⟩ := List.getElem?_of_mem hy
  rw [List.getElem?_drop] at hj
  refine decide_eq_true ?_
  rcases hd with ⟨⟨x, hx, hxt⟩, rfl⟩ | ⟨hno, rfl⟩
  ·rw [← hxt]
   exact hu.lt (by omega) hx hj
  ·rw [Nat.add_zero] at hj
   have := h2 (k + j) y (by omega) hj
   rcases Nat.eq_or_lt_of_le this with e | e
   ·exfalso
    cases j with
    | zero => exact hno ⟨y, hj, e.symm⟩
    | succ j =>
     obtain ⟨z, hz⟩ : ∃ z, l[k]? = some z := ⟨_, List.getElem?_eq_getElem (by have := (List.getElem?_eq_some_iff.1 hj).1; omega)⟩
     have h3 := hu.lt (i := k) (j := k + (j + 1)) (by omega) hz hj
     have h4 := h2 k z (Nat.le_refl _) hz
     omega
   ·exact e)]
theorem putA_seek {l : List Ac} {x : Ac} {k : Nat} (h : SeekP l x.at_ k) (hu : Ups l) (d : Nat) (hd : (∃ y, l[k]? = some y ∧ y.at_ = x.at_) ∧ d = 1 ∨ (¬ ∃ y, l[k]? = some y ∧ y.at_ = x.at_) ∧ d = 0) :
  putA l x = l.take k ++ (if emptyB x = true then [] else [x]) ++ l.drop (k + d) := by
 unfold putA
 rw [seek_take h, seek_drop h hu d hd]
end
section
open Go Go.RowKit
attribute [local go_sem] Oper.semAt_some Grows wide_fn
theorem run_mkA (n : Nat) (hn : n ≤ 100000) (W : World) : ∃ cs : Array Value, cs.size = n * 27 ∧ (Instr.makeSlice 22 (.int .i64 0) (.int .i64 (n : Int))).run Tryz.prog W = .ok (.slice (some ⟨W.heap.size, 0, none⟩) 0 n) (W.alloc (.cells cs 31)) := by
 obtain ⟨i, z, hi, hz, hzs, hsz, hb⟩ := infoA_of
 have h := run_make (P := Tryz.prog) W 22 31 i _ Tryz.underlying22 hi hz .i64 .i64 0 (n : Int) (by omega) (by omega) (by rw [hb]; omega) (by omega)
 simp only [Int.toNat_natCast, Int.toNat_zero] at h
 refine ⟨_, ?_, h⟩
 rw [size_madeCells, hsz]
theorem push_ac (A : World) (base : Nat) (v : Value) (ps : List Pa) (h : RowA A base v ps) (hb : base ≤ A.heap.size) (hl : ps.length ≤ 99999) (x : Ac) (sx : Value) (h1 : sx.oneCell' = true) :
  ∃ v' w', (Builtin.append_ #[22, 22] 22 #[v, .slice (some ⟨A.heap.size, 0, none⟩) 1 1]).run Tryz.prog (A.alloc (.cells (acC x sx) 31)) = .ok v' w' ∧ RowA w' base v' (ps ++ [(x, sx)]) ∧ (∀ lo u l, RowT A lo u l → RowT w' lo u l) ∧ Below base A w' := by
 have NS := Has.new A 31 (acC x sx)
 have q9 := newA A (.cells (acC x sx) 31)
 have hq : RowIn (A.alloc (.cells (acC x sx) 31)) (.slice (some ⟨A.heap.size, 0, none⟩) 1 1) [(x, sx)] := by
  refine ⟨_, _, rfl, Nat.le_refl _, by omega, fun i p hp => ⟨_, rfl, fun j u hj => ?_⟩⟩
  cases i with
  | zero =>
   simp at hp
   subst hp
   have ha : ((⟨A.heap.size, 0, none⟩ : Addr).add (0 * 27)).add j = ⟨A.heap.size, j, none⟩ := by
    rw [Addr.add_add, Nat.zero_mul, Nat.zero_add]; unfold Addr.add; split <;> simp_all
   rw [ha]
   exact NS.cell j u (by simpa [acC] using hj)
  | succ i => simp at hp
 obtain ⟨v', w', hr, hrow, hgr, hbel⟩ := append_acs _ base v ps (h.later q9) (by have := q9.size; omega) _ _ hq (fun p hp => by simp at hp; subst hp; exact h1) (by simp; omega)
 refine ⟨v', w', hr, hrow, fun lo u l hT => ?_, (q9.mono hb).trans hbel⟩
 refine (hT.later q9).keep fun b cs _ ho => ?_
 refine (hgr.block b (Array.getElem?_eq_some_iff.1 ho).1 (fun e => ?_)).trans ho
 obtain ⟨_, cs', hc⟩ := (h.later q9).block e.symm
 rw [ho] at hc
 injection hc with hc
 injection hc with _ hc _
 exact absurd hc (by decide)
theorem fill_ac (x : Ac) (sv : Value) (cells : Array Value) (h : cells.size = 27) : Instr.fill (fun i => some (i * 27, 27)) cells [(0, .agg (acC x sv))] = some (acC x sv) := by
 have := Great.fill_whole (s := 27) (by decide) [.agg (acC x sv)] cells (fun v hv => by
  simp at hv
  subst hv
  exact acC_size x sv) (by simp [h])
 simpa [Value.cells] using this
theorem wpList_build_ac {ops : Array Oper} {rest : List Oper} {o : Oper} {a : Act} {w : World} {Q : Exit → Act → World → Prop} (hg : o.guard = none) (y : Operand) (ho : o.op = .buildSlice 22 1 #[(0, y)]) (x : Ac) (sv : Value) (hy : a.eval y = .agg (acC x sv))
  (h : wpList Tryz.prog ops Q rest (a.put o.dst (.slice (some ⟨w.heap.size, 0, none⟩) 1 1)) (w.alloc (.cells (acC x sv) 31))) : wpList Tryz.prog ops Q (o :: rest) a w := by
 obtain ⟨i, z, hi, hz, hzs, hsz, hby⟩ := infoA_of
 refine wpList_buildSlice hg 22 31 1 #[(0, y)] ho (acC x sv) i z Tryz.underlying22 hi hz (by rw [hsz]; decide) (by rw [hsz]; decide) ?_ h
 rw [hsz]
 simp only [List.map_toArray, List.map_cons, List.map_nil, hy]
 exact fill_ac x sv _ (by simp)
theorem copied_any (W : World) (sv : Value) (l : List Ac) (hs : StAt W sv l) (hl : l.length ≤ 99999) (hsl : ∀ x ∈ l, x.slots.length ≤ 100000) :
  Calls Tryz.prog 41 #[sv, .func (.func 37) #[] #[]] W fun e w' => ∃ v' ps, e = .returned v' ∧ ps.map (·.1) = l ∧ RowA w' W.heap.size v' ps ∧ (∀ p ∈ ps, AcOk p.1 ∧ RowT w' W.heap.size p.2 p.1.slots ∧ ∀ y ∈ p.1.slots, W256 y.1 ∧ W256 y.2) ∧ Below W.heap.size W w' := by
 have HSL := hid hsl
 obtain ⟨a, cap, rfl, hnc, hcm⟩ := hs.shape
 obtain ⟨cs, hcs, hmk⟩ := run_mkA l.length (by omega) W
 have hq0 := newA W (.cells cs 31)
 have hrow := World.ownsRow_made (base := W.heap.size) (e := 31) (size := 27) W cs l.length (Nat.le_refl _) (by unfold maxLen; omega) hcs
 obtain ⟨V, hV⟩ : ∃ V, W.alloc (.cells cs 31) = V := ⟨_, rfl⟩
 rw [hV] at hq0 hrow hmk
 have HS := hid hs
 have Q0 := hid hq0
 have HR := hid (show RowA V W.heap.size (.slice (some ⟨W.heap.size, 0, none⟩) 0 l.length) [] from hrow)
 obtain ⟨n, hn⟩ : ∃ n, l.length = n := ⟨_, rfl⟩
 rw [hn] at HS hnc hmk HR hl
 have HN := hid hn
 have HL := hid hl
 have hlc := hid (Nat.le_trans hnc hcm)
 rw [hn]
 clear hs hnc hcm hn hq0 hrow hsl hcs hl hV
 go_enter Tryz.func41, Tryz.ntmps41
 go_wp2_with fail
 clear hmk
 go_loopw [13, 5] (fun i v wr => ∃ (k : Nat) (ps : List Pa), k ≤ n ∧ i = .int .i64 (k : Int) ∧ ps.map (·.1) = l.take k ∧ RowA wr W.heap.size v ps ∧ (∀ p ∈ ps, AcOk p.1 ∧ RowT wr W.heap.size p.2 p.1.slots ∧ ∀ y ∈ p.1.slots, W256 y.1 ∧ W256 y.2) ∧ Below W.heap.size W wr ∧ True) (fun i _ _ => n - (intOf i).toNat)
 case atStart => exact ⟨0, [], by omega, rfl, rfl, HR.out, (fun p hp => by cases hp), Q0.out, trivial⟩
 case round =>
  obtain ⟨k, ps, hk, rfl, hps, hrow, hall, hq, _⟩ := hrel
  have HQ := hid hq
  have HP := hid hps
  have HRO := hid hrow
  have HA := hid hall
  clear hps hrow hall hq
  by_cases hkn : k < n
  ·have hknI : (k : Int) < (n : Int) := by omega
   have hk0 : (0 : Int) ≤ (k : Int) := by omega
   have hkb : (k : Int) ≤ 9223372036854775806 := by have := hlc.out; omega
   obtain ⟨x, hx⟩ : ∃ x, l[k]? = some x := ⟨_, List.getElem?_eq_getElem (by have := HN.out; omega)⟩
   obtain ⟨b, sx, rfl, ax⟩ := (HS.out.later HQ.out).at hx
   obtain ⟨a', cap', rfl, _, _⟩ := ax.slots.shape
   have hl1 := ax.load
   obtain ⟨V3, hV3, h42, hq3⟩ := newK0 wr
   obtain ⟨cz, hcz⟩ : ∃ cz, acC x (.slice a' x.slots.length cap') = cz := ⟨_, rfl⟩
   have hsz : cz.size = 27 := by rw [← hcz]; exact acC_size _ _
   have h5 : Has (V3.setRow wr.heap.size cz) wr.heap.size 31 cz := setRow_heap _ _ _ _ _ _ h42
   have Q5 := hid (below_rowAc hq3 (g := wr.heap.size) (Nat.le_refl _) cz)
   have hi5 : (Tryz.prog.info? 31).map (·.size) = some cz.size := by rw [hsz]; exact infoAc
   have ho5 : (#[.int .u8 0, .int .u8 0, .int .u8 0, .int .u8 0, .int .u8 0, .int .u8 0, .int .u8 0, .int .u8 0, .int .u8 0, .int .u8 0, .int .u8 0, .int .u8 0, .int .u8 0, .int .u8 0, .int .u8 0, .int .u8 0, .int .u8 0, .int .u8 0, .int .u8 0, .int .u8 0, .int .u64 0, .int .u64 0, .int .u64 0, .int .u64 0, .int .i64 0, .string { data := #[] }, .slice none 0 0] : Array Value).size = cz.size := by rw [hsz]; rfl
   have ha5 : cz.all (·.oneCell') = true := by rw [← hcz]; exact acC_one x (.slice a' x.slots.length cap') rfl
   rw [hcz] at hl1
   have hl6 := (show Has (V3.setRow wr.heap.size cz) wr.heap.size 31 (acC x (.slice a' x.slots.length cap')) by rw [hcz]; exact h5).accLoad
   rw [hcz] at hl6
   obtain ⟨V5, hV5⟩ : ∃ V5, V3.setRow wr.heap.size cz = V5 := ⟨_, rfl⟩
   rw [hV5] at h5 Q5 hl6
   have KO := hid (own_any _ x _ (ax.slots.later Q5.out) (HSL.out x (List.mem_of_getElem? hx)))
   rw [hcz] at KO
   have HWS := hid (And.intro (HS.out.ok hx) ax.slots.wideAll)
   have QQ := hid (HQ.out.trans (Q5.out.mono HQ.out.size))
   have HX := hid (And.intro hx hkn)
   have hpl : ps.length = k := by
    have := congrArg List.length HP.out
    rw [List.length_map, List.length_take] at this
    have := HN.out
    omega
   have HPL := hid hpl
   have HK := hid hk
   clear hx hkn ax h5 hq3 hsz hcz hpl hk
   go_wp2_with (first | (refine wpList_load_known rfl _ (.tmp 15) rfl _ rfl _ hl1 ?_) | (refine wpList_load_known rfl _ (.tmp 7) rfl _ rfl _ hl6 ?_) | (refine wpList_store_row rfl _ (.tmp 7) (.tmp 16) rfl _ _ rfl rfl _ _ h42 hi5 ho5 ha5 ?_; rw [hV5]))
   refine KO.out.mono ?_
   rintro _ w6 ⟨sv', rfl, hrow6, q6⟩
   obtain ⟨a2, c2, rfl⟩ := hrow6.shape
   have Q6 := hid (QQ.out.trans (q6.mono QQ.out.size))
   have hr6 := (HRO.out.later Q5.out).later q6
   have hbs : W.heap.size ≤ w6.heap.size := Q6.out.size
   obtain ⟨v', w7, happ, hrow7, hkeep, hbel⟩ := push_ac w6 W.heap.size u5 ps hr6 hbs (by have := HPL.out; have := HL.out; omega) x (.slice a2 x.slots.length c2) rfl
   have R7 := hid hrow7
   have Q65 := hid q6
   have KP := hid hkeep
   have RX := hid (hrow6.lower QQ.out.size)
   have Q7 := hid hbel
   clear hl1 hl6 h42 hi5 ho5 ha5 hV5 hr6 hrow7 hkeep hbel hrow6 q6 hbs
   go_wp2_with (first | (refine wpList_build_ac rfl (.tmp 20) rfl _ _ rfl ?_) | (at_builtin; refine wpList_append_run rfl (.tmp 17) (.tmp 21) 22 rfl _ _ _ rfl rfl happ ?_))
   go_roundw
   case rel => exact ⟨k + 1, ps ++ [(x, .slice a2 x.slots.length c2)], by have := HX.out.2; omega, by simp, by
    rw [List.map_append, HP.out, List.take_add_one, HX.out.1]
    rfl, R7.out, fun p hp => by
    rcases List.mem_append.1 hp with h | h
    ·obtain ⟨h1, h2, h3⟩ := HA.out p h
     exact ⟨h1, KP.out _ _ _ ((h2.later Q5.out).later Q65.out), h3⟩
    ·simp at h
     subst h
     exact ⟨HWS.out.1, KP.out _ _ _ RX.out, HWS.out.2⟩, Q6.out.trans Q7.out, trivial⟩
   case measure => have := HX.out.2; simp [intOf]; omega
  ·obtain rfl : k = n := by omega
   have hkk : ¬ (k : Int) < (k : Int) := by omega
   have HF := hid (show ps.map (·.1) = l by rw [HP.out, ← HN.out, List.take_length])
   have HB := HQ
   go_wp2_with fail
   go_ret
   exact ⟨_, rfl, ps, HF.out, HRO.out, (by intro a b h; have := HA.out (a, b) h; simpa using this), HB.out⟩
end
end Go.Proofs.YtkicmbdjihjgfaaGreatDoor
