/- Part. -/
import Derived.Lib.SliceRun
import Derived.Lib.AppendZerosOnto
import Derived.Deep.Upon
import Derived.Test.YtlihnlkcgiopoaaDoorH05
import Derived.Test.YtlihnlkcgiopoaaDoorH06
import Derived.Test.YtlihnlkcgiopoaaDoorH07
set_option maxRecDepth 100000
set_option maxHeartbeats 16000000
namespace Go.Proofs.YtlihnlkcgiopoaaDoor
section
open Go Go.RowKit
attribute [local go_sem] Oper.semAt_some Grows wide_fn
def wdL (x : Nat) : List Value := [.int .u64 (lim x 0), .int .u64 (lim x 1), .int .u64 (lim x 2), .int .u64 (lim x 3)]
theorem wdL_len (x : Nat) : (wdL x).length = 4 := rfl
theorem wdL_one (x : Nat) : ∀ u ∈ wdL x, u.oneCell' = true := by intro u hu; simp [wdL] at hu; rcases hu with rfl | rfl | rfl | rfl <;> rfl
def WdIn (W : World) (p : Addr) (x : Nat) : Prop := ∀ (j : Nat) (u : Value), (wdL x)[j]? = some u → W.cell? (p.add j) = some u
theorem infoWs : (Tryd.prog.info? 24).map (·.size) = some 4 := by kernel_rfl
theorem WdIn.load {W : World} {p : Addr} {x : Nat} (h : WdIn W p x) : (loadVar 24 p).run Tryd.prog W = .ok (.agg ((wdL x).toArray)) W :=
 run_loadVar_at W p _ (wdL x) _ h Tryd.underlying24 rfl (by rw [wdL_len]; exact infoWs)
def WdsAt (W : World) (v : Value) (l : List Nat) : Prop :=
 ∃ a cap, v = .slice a l.length cap ∧ l.length ≤ cap ∧ cap ≤ 9223372036854775807 ∧ (∀ x ∈ l, W256 x) ∧ ∀ (i : Nat) (x : Nat), l[i]? = some x → ∃ b, a = some b ∧ WdIn W (b.add (i * 4)) x
theorem WdsAt.keep {W X : World} {v : Value} {l : List Nat} (h : WdsAt W v l) (hk : ∀ (a : Addr) (u : Value), W.cell? a = some u → X.cell? a = some u) : WdsAt X v l := by
 obtain ⟨a, cap, h1, h2, h3, h4, h5⟩ := h
 refine ⟨a, cap, h1, h2, h3, h4, fun i x hx => ?_⟩
 obtain ⟨b, e, hc⟩ := h5 i x hx
 exact ⟨b, e, fun j u hj => hk _ _ (hc j u hj)⟩
theorem WdsAt.later {W X : World} {v : Value} {l : List Nat} (h : WdsAt W v l) (hb : Below W.heap.size W X) : WdsAt X v l := h.keep (cell_below hb)
theorem WdsAt.nil (W : World) : WdsAt W (.slice none 0 0) [] := ⟨none, 0, rfl, by simp, by omega, (fun x hx => by cases hx), fun i x hx => by simp at hx⟩
theorem WdsAt.at {W : World} {a : Option Addr} {n cap : Nat} {l : List Nat} (h : WdsAt W (.slice a n cap) l) {i : Nat} {x : Nat} (hx : l[i]? = some x) : ∃ b, a = some b ∧ WdIn W (b.add (i * 4)) x := by
 obtain ⟨a', cap', h1, h2, h3, h4, h5⟩ := h
 injection h1 with e1 e2 e3
 subst e1
 exact h5 i x hx
theorem WdsAt.in {W : World} {b : Addr} {n cap : Nat} {l : List Nat} (h : WdsAt W (.slice (some b) n cap) l) {i : Nat} {x : Nat} (hx : l[i]? = some x) : WdIn W (b.add (i * 4)) x := by
 obtain ⟨b', e, h⟩ := h.at hx
 injection e with e
 subst e
 exact h
def flatW (l : List Nat) : List Value := l.flatMap wdL
theorem flatW_length : ∀ (l : List Nat), (flatW l).length = l.length * 4
 | [] => rfl
 | x :: l => by
  have := flatW_length l
  simp only [flatW, List.flatMap_cons, List.length_append, List.length_cons] at this ⊢
  rw [this, wdL_len]
  omega
theorem flatW_at : ∀ (l : List Nat) (i : Nat) (x : Nat) (j : Nat), l[i]? = some x → j < 4 → (flatW l)[i * 4 + j]? = (wdL x)[j]?
 | [], i, x, j, h, _ => by simp at h
 | y :: l, 0, x, j, h, hj => by
  simp at h
  subst h
  rw [show flatW (y :: l) = wdL y ++ flatW l from rfl, List.getElem?_append_left (by rw [wdL_len]; omega), Nat.zero_mul, Nat.zero_add]
 | y :: l, i + 1, x, j, h, hj => by
  rw [show flatW (y :: l) = wdL y ++ flatW l from rfl, List.getElem?_append_right (by rw [wdL_len]; omega), wdL_len, show (i + 1) * 4 + j - 4 = i * 4 + j by omega]
  exact flatW_at l i x j (by simpa using h) hj
def WdRow (W : World) (base : Nat) (v : Value) (l : List Nat) : Prop := W.ownsRow base 24 4 v l.length (flatW l)
theorem WdRow.keys {W : World} {base : Nat} {v : Value} {l : List Nat} (h : WdRow W base v l) (hw : ∀ x ∈ l, W256 x) : WdsAt W v l := by
 rcases h.2 with ⟨rfl, h0⟩ | ⟨g, cap, cur, rfl, hbg, hg', hnc, hcm, hcs, htake⟩
 ·have : l = [] := List.eq_nil_of_length_eq_zero h0
  subst this
  exact WdsAt.nil W
 ·refine ⟨some ⟨g, 0, none⟩, cap, rfl, hnc, by simpa [maxLen] using hcm, hw, fun i x hx => ⟨⟨g, 0, none⟩, rfl, fun j u hj => ?_⟩⟩
  have hj4 : j < 4 := by have := (List.getElem?_eq_some_iff.1 hj).1; rwa [wdL_len] at this
  rw [Addr.add_add]
  exact World.ownsRow.cells h (g := g) rfl _ _ ((flatW_at l i x j hx hj4).trans hj)
theorem WdRow.later {W X : World} {base : Nat} {v : Value} {l : List Nat} (h : WdRow W base v l) (hb : Below W.heap.size W X) : WdRow X base v l := by
 refine ⟨h.1, ?_⟩
 rcases h.2 with h0 | ⟨g, cap, cur, rfl, hbg, hg', hr⟩
 ·exact .inl h0
 ·exact .inr ⟨g, cap, cur, rfl, hbg, (hb.block g (Array.getElem?_eq_some_iff.1 hg').1).trans hg', hr⟩
theorem infoW : (Tryd.prog.info? 24).map (fun i => (i.zero, i.size, i.bytes)) = some (some (.agg #[.int .u64 0, .int .u64 0, .int .u64 0, .int .u64 0]), 4, 32) := by kernel_rfl
theorem infoW_of : ∃ i, Tryd.prog.info? 24 = some i ∧ i.zero = some (.agg #[.int .u64 0, .int .u64 0, .int .u64 0, .int .u64 0]) ∧ i.size = 4 ∧ i.bytes = 32 := by
 have h := infoW
 rcases hi : Tryd.prog.info? 24 with _ | i
 ·rw [hi] at h; cases h
 ·rw [hi] at h
  injection h with h
  simp only [Prod.mk.injEq] at h
  exact ⟨i, rfl, h.1, h.2.1, h.2.2⟩
theorem wpList_append_runW {P : Program} {w w' : World} {ops : Array Oper} {rest : List Oper} {o : Oper} {a : Act} {Q : Exit → Act → World → Prop}
  (hg : o.guard = none) (s x : Operand) (t : TypeId) (hop : o.op = Op.call { callee := Callee.builtin Builtin.append, args := #[s, x], argTypes := #[t, t] })
  (v x0 v' : Value) (hs : a.eval s = v) (hx : a.eval x = x0) (hr : (Builtin.append_ #[t, t] o.type #[v, x0]).run P w = .ok v' w')
  (hK : wpList P ops Q rest (a.put o.dst v') w') : wpList P ops Q (o :: rest) a w := by
 refine wpList_plain hg fun K hK' => ?_
 unfold Oper.wp execOp
 simp only [hop, resolve, invoke, builtin, Sem.run_bind, Sem.run_pure, Result.andThen_ok, List.map_toArray, List.map_cons, List.map_nil, hs, hx, hr]
 exact hK' _ _ hK
theorem words_made (w : World) (l : List Nat) (h : ∀ x ∈ l, W256 x) (hl : l.length ≤ 100000) : WdsAt (w.alloc (.cells (flatW l).toArray 24)) (.slice (some ⟨w.heap.size, 0, none⟩) l.length l.length) l := by
 refine ⟨some ⟨w.heap.size, 0, none⟩, l.length, rfl, Nat.le_refl _, by omega, h, fun i x hx => ⟨_, rfl, fun j u hj => ?_⟩⟩
 have hj4 : j < 4 := by have := (List.getElem?_eq_some_iff.1 hj).1; rwa [wdL_len] at this
 rw [Addr.add_add, Addr.add_mid, Nat.zero_add]
 exact (Has.new w 24 (flatW l).toArray).cell _ _ (by simpa using (flatW_at l i x j hx hj4).trans hj)
theorem WdRow.nil (W : World) (base : Nat) : WdRow W base (.slice none 0 0) [] := World.ownsRow_nil _ _ _ _
theorem WdRow.shapeW {W : World} {base : Nat} {v : Value} {l : List Nat} (h : WdRow W base v l) : ∃ a cap, v = .slice a l.length cap := by
 rcases h.2 with ⟨rfl, h0⟩ | ⟨g, cap, cur, rfl, _⟩
 ·exact ⟨none, 0, by rw [h0]⟩
 ·exact ⟨_, _, rfl⟩
theorem WdRow.blockW {W : World} {base : Nat} {v : Value} {l : List Nat} (h : WdRow W base v l) {b : Nat} (hb : v.ownBlock = some b) : base ≤ b ∧ ∃ cs, W.heap[b]? = some (.cells cs 24 (0, 0)) := by
 rcases h.2 with ⟨rfl, h0⟩ | ⟨g, cap, cur, rfl, hbg, hg', _⟩
 ·cases hb
 ·injection hb with hb
  subst hb
  exact ⟨hbg, cur, hg'⟩
theorem flatW_append (a b : List Nat) : flatW (a ++ b) = flatW a ++ flatW b := by simp [flatW]
theorem infoWz_of : ∃ i z, Tryd.prog.info? 24 = some i ∧ i.zero = some z ∧ z.cells.size = 4 ∧ i.size = 4 ∧ i.bytes = 32 := by
 obtain ⟨i, h1, h2, h3, h4⟩ := infoW_of
 exact ⟨i, _, h1, h2, rfl, h3, h4⟩
theorem append_words (A : World) (base : Nat) (v : Value) (ps : List Nat) (h : WdRow A base v ps) (hb : base ≤ A.heap.size) (sv : Value) (qs : List Nat) (hq : WdsAt A sv qs) (hl : ps.length + qs.length ≤ 100000) :
  ∃ v' w', (Builtin.append_ #[41, 41] 41 #[v, sv]).run Tryd.prog A = .ok v' w' ∧ WdRow w' base v' (ps ++ qs) ∧ A.grownBy w' v.ownBlock ∧ Below base A w' := by
 obtain ⟨i, z, hi, hz, hzs, hsize, hby⟩ := infoWz_of
 have bel : ∀ w', A.grownBy w' v.ownBlock → Below base A w' := fun w' hgr => ⟨hgr.os, hgr.tape, hgr.output, hgr.size, fun k hk => hgr.block k (by omega) (fun e => by have := (h.blockW e.symm).1; omega)⟩
 obtain ⟨a, cap, rfl, h2, h3, _, h5⟩ := hq
 cases qs with
 | nil =>
  obtain ⟨av, cv, rfl⟩ := h.shapeW
  have hr := run_append_nothing (P := Tryd.prog) A 41 41 41 24 i Tryd.underlying41 hi av ps.length cv (by
   rcases h.2 with ⟨e, h0⟩ | ⟨g, cap, cur, e, hbg, hg', hnc, _⟩
   ·injection e with _ _ e; omega
   ·injection e with _ _ e; subst e; exact hnc) (.slice a 0 cap) (by
   cases a with
   | none => exact Src.ofNil _ Tryd.underlying41 cap
   | some b => exact Src.ofSlice _ Tryd.underlying41 b 0 cap [] (by simp) (fun j u hj => by simp at hj) (fun u hu => by cases hu))
  refine ⟨_, _, hr, by rw [List.append_nil]; exact h, ⟨rfl, rfl, rfl, Nat.le_refl _, fun _ _ _ => rfl⟩, Below.refl _ _⟩
 | cons q r =>
  obtain ⟨b, rfl, _⟩ := h5 0 q rfl
  obtain ⟨v', w', hr, hown, hgr, hnb⟩ := run_append_src (P := Tryd.prog) A base 41 41 41 24 i z 4 32 Tryd.underlying41 hi hz hsize hby hzs (by decide) v ps.length (flatW ps) h (.slice (some b) (q :: r).length cap) (q :: r).length (by simp) (flatW (q :: r)) (by
   rw [hsize]
   refine Src.ofSlice _ Tryd.underlying41 b _ cap _ (flatW_length _) (fun j u hj => ?_) (fun u hu => ?_)
   ·have hj8 : j < (q :: r).length * 4 := by
     have := (List.getElem?_eq_some_iff.1 hj).1
     rwa [flatW_length] at this
    obtain ⟨y, hy⟩ : ∃ y, (q :: r)[j / 4]? = some y := ⟨_, List.getElem?_eq_getElem (by omega)⟩
    obtain ⟨b', hb', hc⟩ := h5 (j / 4) y hy
    injection hb' with hb'
    subst hb'
    have hf := flatW_at (q :: r) (j / 4) y (j % 4) hy (by omega)
    rw [show j / 4 * 4 + j % 4 = j by omega, hj] at hf
    have h8 := hc (j % 4) u hf.symm
    rwa [Addr.add_add, show j / 4 * 4 + j % 4 = j by omega] at h8
   ·obtain ⟨y, hy, hu'⟩ := List.mem_flatMap.1 hu
    exact wdL_one y u hu') (by omega) (by unfold maxLen; omega) hb
  refine ⟨v', w', hr, ?_, hgr, bel w' hgr⟩
  unfold WdRow
  rw [flatW_append, List.length_append]
  exact hown
end
section
open Go Go.RowKit
attribute [local go_sem] Oper.semAt_some Grows wide_fn eq4
theorem push_wordG (A : World) (base : Nat) (v : Value) (l : List Nat) (h : WdRow A base v l) (hb : base ≤ A.heap.size) (hl : l.length ≤ 99999) (y : Nat) (hy : W256 y) :
  ∃ v' w', (Builtin.append_ #[41, 41] 41 #[v, .slice (some ⟨A.heap.size, 0, none⟩) 1 1]).run Tryd.prog (A.alloc (.cells #[.int .u64 (lim y 0), .int .u64 (lim y 1), .int .u64 (lim y 2), .int .u64 (lim y 3)] 24)) = .ok v' w' ∧ WdRow w' base v' (l ++ [y]) ∧ Below base A w' := by
 have hm : WdsAt (A.alloc (.cells #[.int .u64 (lim y 0), .int .u64 (lim y 1), .int .u64 (lim y 2), .int .u64 (lim y 3)] 24)) (.slice (some ⟨A.heap.size, 0, none⟩) 1 1) [y] := words_made A [y] (fun x hx => by rw [List.mem_singleton.1 hx]; exact hy) (by simp)
 have qa := newA A (.cells #[.int .u64 (lim y 0), .int .u64 (lim y 1), .int .u64 (lim y 2), .int .u64 (lim y 3)] 24)
 obtain ⟨v', w', h1, h2, _, h4⟩ := append_words _ base v l (h.later qa) (Nat.le_trans hb qa.size) _ [y] hm (by simp; omega)
 exact ⟨v', w', h1, h2, (qa.mono hb).trans h4⟩
def cF (l : List Nat) (i : Nat) : Nat → Nat
 | 0 => i + 1
 | t + 1 => if l.getD (i - 1 - t) 0 = l.getD i 0 then i - 1 - t + 1 else cF l i t
def nN (l : List Nat) (i : Nat) : Nat := if l.getD i 0 = 0 then 0 else cF l i i
theorem cF_le (l : List Nat) (i : Nat) : ∀ t, t ≤ i → 1 ≤ cF l i t ∧ cF l i t ≤ i + 1
 | 0, _ => by unfold cF; omega
 | t + 1, h => by
  have := cF_le l i t (by omega)
  unfold cF
  split <;> omega
theorem nN_le (l : List Nat) (i : Nat) : nN l i ≤ i + 1 := by have := cF_le l i i (Nat.le_refl _); unfold nN; split <;> omega
def nsL (l : List Nat) (i : Nat) : List Nat := (List.range i).map (nN l)
theorem nsL_succ (l : List Nat) (i : Nat) : nsL l (i + 1) = nsL l i ++ [nN l i] := by unfold nsL; rw [List.range_succ, List.map_append]; rfl
theorem nsL_ok (l : List Nat) : ∀ x ∈ nsL l 3, W256 x := fun x hx => by
 obtain ⟨i, hi, rfl⟩ := List.mem_map.1 hx
 have := nN_le l i
 have := List.mem_range.1 hi
 unfold W256; omega
theorem store_same (a b c : Nat) (t : Bool) : storeV (nN [a, b, c] 0) (nN [a, b, c] 1) (nN [a, b, c] 2) t = storeV a b c t := by
 have e0 : nN [a, b, c] 0 = if a = 0 then 0 else 1 := rfl
 have e1 : nN [a, b, c] 1 = if b = 0 then 0 else if a = b then 1 else 2 := rfl
 have e2 : nN [a, b, c] 2 = if c = 0 then 0 else if a = c then 1 else if b = c then 2 else 3 := rfl
 rw [e0, e1, e2]
 unfold storeV costN refundedN writtenN clearedN restoredN firstN
 by_cases h1 : a = 0 <;> by_cases h2 : b = 0 <;> by_cases h3 : c = 0 <;> by_cases h4 : a = b <;> by_cases h5 : a = c <;> by_cases h6 : b = c
 all_goals (first | (exfalso; omega) | (simp [h1, h2, h3, h4, h5, h6]; done) | (subst_vars; simp_all; done) | (simp_all; done))
theorem cF_step (l : List Nat) (i t : Nat) : cF l i (t + 1) = if l.getD (i - 1 - t) 0 = l.getD i 0 then i - 1 - t + 1 else cF l i t := rfl
theorem writes_any (w : World) (a b c : Nat) (ha : W256 a) (hb : W256 b) (hc : W256 c) (t : Bool) : Calls Tryd.prog 8 #[wv a, wv b, wv c, .bool t] w fun e w' => e = .returned (.bool true) ∧ Below w.heap.size w w' := by
 have hmx : Tryd.prog.follows .mixedOrders = true := by kernel_rfl
 obtain ⟨l, hl⟩ : ∃ l, [a, b, c] = l := ⟨_, rfl⟩
 have HL := hid hl
 have HS1 := hid (store_ret a b c ha hb hc t)
 have hn : ∀ i, i < 3 → W256 (nN l i) := fun i hi => by have := nN_le l i; unfold W256; omega
 have HS2 := hid (store_ret (nN l 0) (nN l 1) (nN l 2) (hn 0 (by omega)) (hn 1 (by omega)) (hn 2 (by omega)) t)
 have hss := store_same a b c t
 rw [hl] at hss
 rw [hss] at HS2
 have hcr : 100 ≤ costN a b c t ∧ costN a b c t ≤ 22100 := by have := writtenN_range a b c; unfold costN; split <;> omega
 have hrr := refundedN_range a b c
 unfold storeV at HS1 HS2
 obtain ⟨p, hp⟩ : ∃ p, costN a b c t = p := ⟨_, rfl⟩
 obtain ⟨q, hq⟩ : ∃ q, refundedN a b c = q := ⟨_, rfl⟩
 rw [hp] at HS1 HS2 hcr
 rw [hq] at HS1 HS2 hrr
 obtain ⟨p0, p1⟩ := hcr
 obtain ⟨q0, q1⟩ := hrr
 have HOF := hid (fun (k : Nat) (hk : k ≤ 9) => (show Ret Tryd.prog 23 #[.int .i64 (k : Int)] (.agg #[.int .u64 (lim k 0), .int .u64 (lim k 1), .int .u64 (lim k 2), .int .u64 (lim k 3)]) from by
  have h1 := refOf_ret (k : Int) (by unfold I64; omega)
  rw [ofN_nat] at h1
  exact h1))
 have HK := hid awakeG_ret
 have HWA := hid (And.intro ha (And.intro hb hc))
 have HLW := hid (show ∀ x ∈ l, W256 x by rw [← hl]; intro x hx; simp at hx; rcases hx with rfl | rfl | rfl <;> assumption)
 have HLL := hid (show l.length = 3 by rw [← hl]; rfl)
 clear ha hb hc hn hss hp hq
 unfold wv at *
 have Q := Below.refl w.heap.size w
 go_enter Tryd.func8, Tryd.ntmps8
 have LA := Has.new w 24 #[.int .u64 (lim a 0), .int .u64 (lim a 1), .int .u64 (lim a 2), .int .u64 (lim a 3)]
 have k1 := LA.cell 0 _ rfl
 have k2 := LA.cell 1 _ rfl
 have k3 := LA.cell 2 _ rfl
 have k4 := LA.cell 3 _ rfl
 have LA := LA.alloc (.cells #[.int .u64 (lim b 0), .int .u64 (lim b 1), .int .u64 (lim b 2), .int .u64 (lim b 3)] 24)
 have LB := Has.new (w.alloc (.cells #[.int .u64 (lim a 0), .int .u64 (lim a 1), .int .u64 (lim a 2), .int .u64 (lim a 3)] 24)) 24 #[.int .u64 (lim b 0), .int .u64 (lim b 1), .int .u64 (lim b 2), .int .u64 (lim b 3)]
 simp only [World.size_alloc] at LB
 have k5 := LA.cell 0 _ rfl
 have k6 := LA.cell 1 _ rfl
 have k7 := LA.cell 2 _ rfl
 have k8 := LA.cell 3 _ rfl
 have k9 := LB.cell 0 _ rfl
 have k10 := LB.cell 1 _ rfl
 have k11 := LB.cell 2 _ rfl
 have k12 := LB.cell 3 _ rfl
 have LA := LA.alloc (.cells #[.int .u64 (lim c 0), .int .u64 (lim c 1), .int .u64 (lim c 2), .int .u64 (lim c 3)] 24)
 have LB := LB.alloc (.cells #[.int .u64 (lim c 0), .int .u64 (lim c 1), .int .u64 (lim c 2), .int .u64 (lim c 3)] 24)
 have LC := Has.new ((w.alloc (.cells #[.int .u64 (lim a 0), .int .u64 (lim a 1), .int .u64 (lim a 2), .int .u64 (lim a 3)] 24)).alloc (.cells #[.int .u64 (lim b 0), .int .u64 (lim b 1), .int .u64 (lim b 2), .int .u64 (lim b 3)] 24)) 24 #[.int .u64 (lim c 0), .int .u64 (lim c 1), .int .u64 (lim c 2), .int .u64 (lim c 3)]
 simp only [World.size_alloc] at LC
 have k13 := LA.cell 0 _ rfl
 have k14 := LA.cell 1 _ rfl
 have k15 := LA.cell 2 _ rfl
 have k16 := LA.cell 3 _ rfl
 have k17 := LB.cell 0 _ rfl
 have k18 := LB.cell 1 _ rfl
 have k19 := LB.cell 2 _ rfl
 have k20 := LB.cell 3 _ rfl
 have k21 := LC.cell 0 _ rfl
 have k22 := LC.cell 1 _ rfl
 have k23 := LC.cell 2 _ rfl
 have k24 := LC.cell 3 _ rfl
 have Q := Q.alloc Q.size (.cells #[.int .u64 (lim a 0), .int .u64 (lim a 1), .int .u64 (lim a 2), .int .u64 (lim a 3)] 24)
 have Q := Q.alloc Q.size (.cells #[.int .u64 (lim b 0), .int .u64 (lim b 1), .int .u64 (lim b 2), .int .u64 (lim b 3)] 24)
 have Q := Q.alloc Q.size (.cells #[.int .u64 (lim c 0), .int .u64 (lim c 1), .int .u64 (lim c 2), .int .u64 (lim c 3)] 24)
 go_wp2_with fail
 clear k1 k2 k3 k4 k5 k6 k7 k8 k9 k10 k11 k12 k13 k14 k15 k16 k17 k18 k19 k20 k21 k22 k23 k24
 obtain ⟨W1, hW1⟩ : ∃ W1, (((w.alloc (.cells #[.int .u64 (lim a 0), .int .u64 (lim a 1), .int .u64 (lim a 2), .int .u64 (lim a 3)] 24)).alloc (.cells #[.int .u64 (lim b 0), .int .u64 (lim b 1), .int .u64 (lim b 2), .int .u64 (lim b 3)] 24)).alloc (.cells #[.int .u64 (lim c 0), .int .u64 (lim c 1), .int .u64 (lim c 2), .int .u64 (lim c 3)] 24)) = W1 := ⟨_, rfl⟩
 rw [hW1] at LA LB LC Q ⊢
 clear hW1
 refine (HK.out _).mono ?_
 rintro e v25 ⟨rfl, q⟩
 have LA := LA.later q
 have LB := LB.later q
 have LC := LC.later q
 have Q := Q.trans (q.mono Q.size)
 clear q
 have k26 := LA.cell 0 _ rfl
 have k27 := LA.cell 1 _ rfl
 have k28 := LA.cell 2 _ rfl
 have k29 := LA.cell 3 _ rfl
 have k30 := LB.cell 0 _ rfl
 have k31 := LB.cell 1 _ rfl
 have k32 := LB.cell 2 _ rfl
 have k33 := LB.cell 3 _ rfl
 have k34 := LC.cell 0 _ rfl
 have k35 := LC.cell 1 _ rfl
 have k36 := LC.cell 2 _ rfl
 have k37 := LC.cell 3 _ rfl
 have LA := LA.alloc (.cells #[.int .u64 (lim a 0), .int .u64 (lim a 1), .int .u64 (lim a 2), .int .u64 (lim a 3), .int .u64 (lim b 0), .int .u64 (lim b 1), .int .u64 (lim b 2), .int .u64 (lim b 3), .int .u64 (lim c 0), .int .u64 (lim c 1), .int .u64 (lim c 2), .int .u64 (lim c 3)] 24)
 have LB := LB.alloc (.cells #[.int .u64 (lim a 0), .int .u64 (lim a 1), .int .u64 (lim a 2), .int .u64 (lim a 3), .int .u64 (lim b 0), .int .u64 (lim b 1), .int .u64 (lim b 2), .int .u64 (lim b 3), .int .u64 (lim c 0), .int .u64 (lim c 1), .int .u64 (lim c 2), .int .u64 (lim c 3)] 24)
 have LC := LC.alloc (.cells #[.int .u64 (lim a 0), .int .u64 (lim a 1), .int .u64 (lim a 2), .int .u64 (lim a 3), .int .u64 (lim b 0), .int .u64 (lim b 1), .int .u64 (lim b 2), .int .u64 (lim b 3), .int .u64 (lim c 0), .int .u64 (lim c 1), .int .u64 (lim c 2), .int .u64 (lim c 3)] 24)
 have LG := Has.new v25 24 #[.int .u64 (lim a 0), .int .u64 (lim a 1), .int .u64 (lim a 2), .int .u64 (lim a 3), .int .u64 (lim b 0), .int .u64 (lim b 1), .int .u64 (lim b 2), .int .u64 (lim b 3), .int .u64 (lim c 0), .int .u64 (lim c 1), .int .u64 (lim c 2), .int .u64 (lim c 3)]
 have k38 := LA.cell 0 _ rfl
 have k39 := LA.cell 1 _ rfl
 have k40 := LA.cell 2 _ rfl
 have k41 := LA.cell 3 _ rfl
 have k42 := LB.cell 0 _ rfl
 have k43 := LB.cell 1 _ rfl
 have k44 := LB.cell 2 _ rfl
 have k45 := LB.cell 3 _ rfl
 have k46 := LC.cell 0 _ rfl
 have k47 := LC.cell 1 _ rfl
 have k48 := LC.cell 2 _ rfl
 have k49 := LC.cell 3 _ rfl
 have k50 := LG.cell 0 _ rfl
 have k51 := LG.cell 1 _ rfl
 have k52 := LG.cell 2 _ rfl
 have k53 := LG.cell 3 _ rfl
 have k54 := LG.cell 4 _ rfl
 have k55 := LG.cell 5 _ rfl
 have k56 := LG.cell 6 _ rfl
 have k57 := LG.cell 7 _ rfl
 have k58 := LG.cell 8 _ rfl
 have k59 := LG.cell 9 _ rfl
 have k60 := LG.cell 10 _ rfl
 have k61 := LG.cell 11 _ rfl
 have Q := Q.alloc Q.size (.cells #[.int .u64 (lim a 0), .int .u64 (lim a 1), .int .u64 (lim a 2), .int .u64 (lim a 3), .int .u64 (lim b 0), .int .u64 (lim b 1), .int .u64 (lim b 2), .int .u64 (lim b 3), .int .u64 (lim c 0), .int .u64 (lim c 1), .int .u64 (lim c 2), .int .u64 (lim c 3)] 24)
 go_wp2_with fail
 clear k26 k27 k28 k29 k30 k31 k32 k33 k34 k35 k36 k37 k38 k39 k40 k41 k42 k43 k44 k45 k46 k47 k48 k49 k50 k51 k52 k53 k54 k55 k56 k57 k58 k59 k60 k61
 obtain ⟨W2, hW2⟩ : ∃ W2, (v25.alloc (.cells #[.int .u64 (lim a 0), .int .u64 (lim a 1), .int .u64 (lim a 2), .int .u64 (lim a 3), .int .u64 (lim b 0), .int .u64 (lim b 1), .int .u64 (lim b 2), .int .u64 (lim b 3), .int .u64 (lim c 0), .int .u64 (lim c 1), .int .u64 (lim c 2), .int .u64 (lim c 3)] 24)) = W2 := ⟨_, rfl⟩
 rw [hW2] at LA LB LC LG Q ⊢
 clear hW2
 generalize v25.heap.size = b2 at *
 have hz0 : WdsAt W2 (.slice (some ⟨b2, 0, none⟩) 3 3) l := by
  refine ⟨some ⟨b2, 0, none⟩, 3, by rw [HLL.out], by rw [HLL.out]; decide, by decide, HLW.out, fun i x hx => ⟨_, rfl, fun j u hj => ?_⟩⟩
  have hj4 : j < 4 := by have := (List.getElem?_eq_some_iff.1 hj).1; rwa [wdL_len] at this
  rw [Addr.add_add, Addr.add_mid, Nat.zero_add]
  refine LG.cell _ _ ?_
  have h1 := flatW_at l i x j hx hj4
  rw [hj] at h1
  rw [← HL.out] at h1
  simpa [flatW, wdL] using h1
 have HZ := hid hz0
 have HB := hid (And.intro LA (And.intro LB LC))
 have HQ0 := hid Q
 clear hz0 LA LB LC LG Q
 obtain ⟨G, hG⟩ : ∃ G : Addr, (⟨b2, 0, none⟩ : Addr) = G := ⟨_, rfl⟩
 rw [hG] at HZ ⊢
 clear hG
 go_loopw [11, 12] (fun sv iv wr => ∃ i : Nat, i ≤ 3 ∧ iv = .int .i64 (i : Int) ∧ WdRow wr W2.heap.size sv (nsL l i) ∧ Below W2.heap.size W2 wr) (fun _ iv _ => 3 - (intOf iv).toNat)
 case atStart => exact ⟨0, by omega, rfl, WdRow.nil _ _, Below.refl _ _⟩
 case round =>
  obtain ⟨i, hi, rfl, hrow, hq⟩ := hrel
  have HROW := hid hrow
  have HQ := hid hq
  obtain ⟨sa, sc, hsv⟩ := hrow.shapeW
  have hsl : (nsL l i).length = i := by unfold nsL; simp
  rw [hsl] at hsv
  subst hsv
  obtain ⟨V, hV⟩ : ∃ V, V = wr := ⟨_, rfl⟩
  subst hV
  have HSL := hid hsl
  clear hrow hq hsl
  by_cases hi3 : i < 3
  ·obtain ⟨x, hx⟩ : ∃ x, l[i]? = some x := ⟨_, List.getElem?_eq_getElem (by rw [HLL.out]; exact hi3)⟩
   have hgx : l.getD i 0 = x := by rw [List.getD_eq_getElem?_getD, hx]; rfl
   have hWx := HLW.out x (List.mem_of_getElem? hx)
   have i0 : (0 : Int) ≤ (i : Int) := by omega
   have i3 : (i : Int) < 3 := by omega
   have hld := (show (loadVar 24 (G.add (i * 4))).run Tryd.prog V = .ok (.agg #[.int .u64 (lim x 0), .int .u64 (lim x 1), .int .u64 (lim x 2), .int .u64 (lim x 3)]) V from ((HZ.out.later HQ.out).in hx).load)
   have HX := hid (And.intro hx (And.intro hgx (And.intro hWx hi3)))
   have hnx := nsL_succ l i
   have HNX := hid hnx
   have LXQ := hid (fun (X : World) (hX : Below W2.heap.size W2 X) => (show ∀ z : World, Grows X z → (loadVar 24 (G.add (i * 4))).run Tryd.prog z = .ok (.agg #[.int .u64 (lim x 0), .int .u64 (lim x 1), .int .u64 (lim x 2), .int .u64 (lim x 3)]) z from fun z hz => by obtain ⟨y, rfl⟩ := hz; exact ((HZ.out.later (hX.trans (y.below.mono hX.size))).in hx).load))
   clear hx hgx hWx hi3 hnx hi
   by_cases hx0 : x = 0
   ·have ez := eqZ_t HX.out.2.2.1 hx0
    have HN0 := hid (show nN l i = 0 by unfold nN; rw [HX.out.2.1, if_pos hx0])
    have HO := hid (HOF.out 0 (by omega))
    clear hx0
    go_wp2_with (refine wpList_load_known rfl _ (.tmp 30) rfl _ rfl _ hld ?_)
    clear hld ez
    refine (HO.out _).mono ?_
    rintro e w7 ⟨rfl, q7⟩
    have hrow7 := HROW.out.later ((Below.refl V.heap.size V).trans (q7.mono (Below.refl V.heap.size V).size))
    have hq7 := HQ.out.trans (((Below.refl V.heap.size V).trans (q7.mono (Below.refl V.heap.size V).size)).mono HQ.out.size)
    obtain ⟨v', w8, happ, hrow8, hb8⟩ := push_wordG w7 W2.heap.size _ _ hrow7 hq7.size (by rw [HSL.out]; omega) 0 (by have := nN_le l i; have := HN0.out; unfold W256; omega)
    obtain ⟨a9, c9, e9⟩ := hrow8.shapeW
    have e10 : v' = .slice a9 (i + 1) c9 := by rw [e9, List.length_append, HSL.out]; rfl
    clear e9
    subst e10
    have HR8 := hid (show WdRow w8 W2.heap.size (.slice a9 (i + 1) c9) (nsL l (i + 1)) by rw [HNX.out, HN0.out]; exact hrow8)
    have HB8 := hid (hq7.trans hb8)
    clear hrow7 hq7 hrow8 hb8
    go_wp2_with (at_builtin; refine wpList_append_runW rfl (.tmp 53) (.tmp 56) 41 rfl _ _ _ rfl rfl happ ?_)
    go_roundw
    case rel => exact ⟨i + 1, by have := HX.out.2.2.2; omega, by simp, HR8.out, HB8.out⟩
    case measure => have := HX.out.2.2.2; simp [intOf]; omega
   ·have ez := eqZ_f HX.out.2.2.1 hx0
    have HNi := hid (show nN l i = cF l i i by unfold nN; rw [HX.out.2.1, if_neg hx0])
    clear hx0
    go_wp2_with (refine wpList_load_known rfl _ (.tmp 30) rfl _ rfl _ hld ?_)
    clear hld ez
    go_loopw [13, 14] (fun nv kv wx => ∃ s : Nat, s ≤ i ∧ nv = .int .i64 ((cF l i s : Nat) : Int) ∧ kv = .int .i64 ((i : Int) - 1 - (s : Int)) ∧ Below V.heap.size V wx) (fun _ kv _ => (intOf kv + 1).toNat)
    case atStart => exact ⟨0, by omega, by simp [cF], by simp, Below.refl _ _⟩
    case round =>
     obtain ⟨s, hs, rfl, hkv, hq⟩ := hrel
     have HQW := hid (HQ.out.trans (hq.mono HQ.out.size))
     have HQV := hid hq
     clear hq
     by_cases hsi : s < i
     ·obtain ⟨k, hk⟩ : ∃ k, i - 1 - s = k := ⟨_, rfl⟩
      have ek : (i : Int) - 1 - (s : Int) = (k : Int) := by omega
      rw [ek] at hkv
      subst hkv
      have k0 : (0 : Int) ≤ (k : Int) := by omega
      have k3 : (k : Int) < 3 := by omega
      obtain ⟨y, hy⟩ : ∃ y, l[k]? = some y := ⟨_, List.getElem?_eq_getElem (by rw [HLL.out]; omega)⟩
      have hgy : l.getD k 0 = y := by rw [List.getD_eq_getElem?_getD, hy]; rfl
      have hWy := HLW.out y (List.mem_of_getElem? hy)
      have hst := cF_step l i s
      rw [hk, hgy, HX.out.2.1] at hst
      have LX := hid (LXQ.out _ HQW.out)
      have LY := hid (show ∀ z : World, Grows wr z → (loadVar 24 (G.add (k * 4))).run Tryd.prog z = .ok (.agg #[.int .u64 (lim y 0), .int .u64 (lim y 1), .int .u64 (lim y 2), .int .u64 (lim y 3)]) z from fun z hz => by obtain ⟨v, rfl⟩ := hz; exact ((HZ.out.later (HQW.out.trans (v.below.mono HQW.out.size))).in hy).load)
      have HI := hid (And.intro hsi (And.intro hk (And.intro ek hs)))
      clear hs hsi hy hgy ek hk
      by_cases hyx : y = x
      ·rw [if_pos hyx] at hst
       have E := eqW_t hWy HX.out.2.2.1 hyx
       have HST := hid hst
       clear hst hyx hWy
       go_wp2_with fail
       refine wp_region_quietL (C := Grows wr) hmx (by kernel_rfl) (grows_refl wr) ?_
       repeat (first | (with_reducible refine wpQuiet_load rfl 24 _ rfl _ rfl _ LY.out ?_; simp only [Act.put, sT, sS, sZ]) | (with_reducible refine wpQuiet_load rfl 24 _ rfl _ rfl _ LX.out ?_; simp only [Act.put, sT, sS, sZ]) | (go_big_quiet_step (fail)))
       refine wpQuiet_nil ?_
       rintro _ ⟨z, rfl⟩
       have HQZ := hid (HQV.out.trans (z.below.mono HQV.out.size))
       clear LX LY E
       go_wp2_with fail
       go_roundw
       case rel => exact ⟨s + 1, by have := HI.out.1; omega, (by rw [HST.out]; try simp), by have := HI.out.2.2.1; push_cast; first | done | omega | (congr 1; omega), HQZ.out⟩
       case measure => simp [intOf]
      ·rw [if_neg hyx] at hst
       have E := eqW_f hWy HX.out.2.2.1 hyx
       have HST := hid hst
       clear hst hyx hWy
       go_wp2_with fail
       refine wp_region_quietL (C := Grows wr) hmx (by kernel_rfl) (grows_refl wr) ?_
       repeat (first | (with_reducible refine wpQuiet_load rfl 24 _ rfl _ rfl _ LY.out ?_; simp only [Act.put, sT, sS, sZ]) | (with_reducible refine wpQuiet_load rfl 24 _ rfl _ rfl _ LX.out ?_; simp only [Act.put, sT, sS, sZ]) | (go_big_quiet_step (fail)))
       refine wpQuiet_nil ?_
       rintro _ ⟨z, rfl⟩
       have HQZ := hid (HQV.out.trans (z.below.mono HQV.out.size))
       clear LX LY E
       go_wp2_with fail
       go_roundw
       case rel => exact ⟨s + 1, by have := HI.out.1; omega, (by rw [HST.out]; try simp), by have := HI.out.2.2.1; push_cast; first | done | omega | (congr 1; omega), HQZ.out⟩
       case measure => simp [intOf]
     ·obtain rfl : s = i := by omega
      have kneg : ¬ (0 : Int) ≤ (s : Int) - 1 - (s : Int) := by omega
      subst hkv
      have hcl := cF_le l s s (Nat.le_refl _)
      obtain ⟨n, hn⟩ : ∃ n, cF l s s = n := ⟨_, rfl⟩
      rw [hn] at HNi hcl ⊢
      have HN0 := hid HNi.out
      have HO := hid (HOF.out n (by omega))
      clear hn hcl hs hsi
      go_wp2_with fail
      refine (HO.out _).mono ?_
      rintro e w7 ⟨rfl, q7⟩
      have hrow7 := HROW.out.later (HQV.out.trans (q7.mono HQV.out.size))
      have hq7 := HQ.out.trans ((HQV.out.trans (q7.mono HQV.out.size)).mono HQ.out.size)
      obtain ⟨v', w8, happ, hrow8, hb8⟩ := push_wordG w7 W2.heap.size _ _ hrow7 hq7.size (by rw [HSL.out]; omega) n (by have := nN_le l s; have := HN0.out; unfold W256; omega)
      obtain ⟨a9, c9, e9⟩ := hrow8.shapeW
      have e10 : v' = .slice a9 (s + 1) c9 := by rw [e9, List.length_append, HSL.out]; rfl
      clear e9
      subst e10
      have HR8 := hid (show WdRow w8 W2.heap.size (.slice a9 (s + 1) c9) (nsL l (s + 1)) by rw [HNX.out, HN0.out]; exact hrow8)
      have HB8 := hid (hq7.trans hb8)
      clear hrow7 hq7 hrow8 hb8
      go_wp2_with (at_builtin; refine wpList_append_runW rfl (.tmp 53) (.tmp 56) 41 rfl _ _ _ rfl rfl happ ?_)
      go_roundw
      case rel => exact ⟨s + 1, by have := HX.out.2.2.2; omega, by simp, HR8.out, HB8.out⟩
      case measure => have := HX.out.2.2.2; simp [intOf]; omega
  ·obtain rfl : i = 3 := by omega
   have hr3 := HROW.out.keys (nsL_ok l)
   have hnn : nsL l 3 = [nN l 0, nN l 1, nN l 2] := rfl
   have LA := HB.out.1.later HQ.out
   have LB := HB.out.2.1.later HQ.out
   have LC := HB.out.2.2.later HQ.out
   have Q := HQ0.out.trans (HQ.out.mono HQ0.out.size)
   obtain ⟨n0, hn0⟩ : ∃ n0, nN l 0 = n0 := ⟨_, rfl⟩
   obtain ⟨n1, hn1⟩ : ∃ n1, nN l 1 = n1 := ⟨_, rfl⟩
   obtain ⟨n2, hn2⟩ : ∃ n2, nN l 2 = n2 := ⟨_, rfl⟩
   rw [hn0, hn1, hn2] at hnn HS2
   rw [hnn] at hr3
   obtain ⟨b0, eb, _⟩ := hr3.at (i := 0) rfl
   subst eb
   have HR3 := hid hr3
   clear hr3 hnn hn0 hn1 hn2 HROW hi hi3
   have A0 := LA.cell 0 _ rfl
   have A1 := LA.cell 1 _ rfl
   have A2 := LA.cell 2 _ rfl
   have A3 := LA.cell 3 _ rfl
   have B0 := LB.cell 0 _ rfl
   have B1 := LB.cell 1 _ rfl
   have B2 := LB.cell 2 _ rfl
   have B3 := LB.cell 3 _ rfl
   have C0 := LC.cell 0 _ rfl
   have C1 := LC.cell 1 _ rfl
   have C2 := LC.cell 2 _ rfl
   have C3 := LC.cell 3 _ rfl
   go_wp2_with fail
   clear A0 A1 A2 A3 B0 B1 B2 B3 C0 C1 C2 C3 LA LB LC
   refine (HS1.out _).mono ?_
   rintro e w5 ⟨rfl, q5⟩
   have Q5 := hid (Q.trans (q5.mono Q.size))
   have hr5 := HR3.out.later q5
   have L0 := hid (show ∀ z : World, Grows w5 z → (loadVar 24 (b0.add (0 * 4))).run Tryd.prog z = .ok (.agg #[.int .u64 (lim n0 0), .int .u64 (lim n0 1), .int .u64 (lim n0 2), .int .u64 (lim n0 3)]) z from fun z hz => by obtain ⟨v, rfl⟩ := hz; exact ((hr5.later v.below).in (i := 0) rfl).load)
   have L1 := hid (show ∀ z : World, Grows w5 z → (loadVar 24 (b0.add (1 * 4))).run Tryd.prog z = .ok (.agg #[.int .u64 (lim n1 0), .int .u64 (lim n1 1), .int .u64 (lim n1 2), .int .u64 (lim n1 3)]) z from fun z hz => by obtain ⟨v, rfl⟩ := hz; exact ((hr5.later v.below).in (i := 1) rfl).load)
   have L2 := hid (show ∀ z : World, Grows w5 z → (loadVar 24 (b0.add (2 * 4))).run Tryd.prog z = .ok (.agg #[.int .u64 (lim n2 0), .int .u64 (lim n2 1), .int .u64 (lim n2 2), .int .u64 (lim n2 3)]) z from fun z hz => by obtain ⟨v, rfl⟩ := hz; exact ((hr5.later v.below).in (i := 2) rfl).load)
   clear Q q5 hr5
   go_wp2_with fail
   refine wp_region_quietL (C := Grows w5) hmx (by kernel_rfl) (grows_refl w5) ?_
   repeat (first | (with_reducible refine wpQuiet_load rfl 24 _ rfl _ rfl _ L0.out ?_; simp only [Act.put, sT, sS, sZ]) | (with_reducible refine wpQuiet_load rfl 24 _ rfl _ rfl _ L1.out ?_; simp only [Act.put, sT, sS, sZ]) | (with_reducible refine wpQuiet_load rfl 24 _ rfl _ rfl _ L2.out ?_; simp only [Act.put, sT, sS, sZ]) | (go_big_quiet_step (with_reducible exact Ret.at HS2.out _)))
   refine wpQuiet_nil ?_
   rintro _ ⟨z, rfl⟩
   have HQZ := hid (Q5.out.trans (z.below.mono Q5.out.size))
   clear L0 L1 L2
   go_wp2
   go_ret
   exact ⟨rfl, HQZ.out⟩
end
end Go.Proofs.YtlihnlkcgiopoaaDoor
