import Derived.StillTail
import Derived.Deep.Quiet
import Derived.Deep.QuietTactic
import Derived.BigQuiet
import Derived.TacticsIn
import Derived.OrdersIn
import Derived.RangeFuncCalls
import Derived.RangeFuncWrites
import Derived.Below
/- Regions that draw their order: every operation up to a forced tail yields one value in every world of a class and leaves a world of the class; then one walk in the order of the text serves every order. Conditions: the region's own closed checks. -/
namespace Go.Proofs.YtbbpmcebakckaaaGreatDoor
open Go Go.RowKit

section
variable {P : Program} {ops : Array Oper} {md : Region.Mode} {C : World → Prop}

def wpAnyT (P : Program) (md : Region.Mode) (ops : Array Oper) (C : World → Prop) (n : Nat) (L : Array Bool → Act → Prop) : Nat → Array Bool → Act → Prop
  | 0, listed, a => L listed a
  | f + 1, listed, a =>
    Region.ready md ops listed ≠ [] ∧ ∀ i ∈ Region.ready md ops listed, i < n ∧ qOp P ops C i (wpAnyT P md ops C n L f (listed.setIfInBounds i true)) a

theorem wpAny_of_headT {n g : Nat} {L : Array Bool → Act → Prop} {Q' : Exit → Act → World → Prop} (hL : ∀ listed a w, C w → L listed a → wpAny P md ops Q' g listed a w) :
    ∀ (f : Nat) (listed : Array Bool) (a : Act) (w : World), C w → wpAnyT P md ops C n L f listed a → wpAny P md ops Q' (f + g) listed a w
  | 0, listed, a, w, hw, h => by rw [Nat.zero_add]; exact hL _ _ _ hw h
  | f + 1, listed, a, w, hw, h => by
    rw [show f + 1 + g = (f + g) + 1 by omega]
    exact ⟨fun h0 => absurd h0 h.1, fun i hi => wpOp_of_qOp hw (fun a' w' hw' h' => wpAny_of_headT hL f _ a' w' hw' h') (h.2 i hi).2⟩

theorem wpAnyT_first {n i : Nat} {oi : Oper} {v : Value} {L : Array Bool → Act → Prop} (hi : ops[i]? = some oi) (hsel : ∀ (j : Nat) (o : Oper) cs b, ops[j]? = some o → o.op ≠ .select cs b)
    (hs : Region.sinkB md ops n = true) (hc : Region.chainB md ops n = true) (hn : n < ops.size) (hin : i < n)
    (hdone : ∀ listed a, L listed a → ∀ j ∈ Region.ready md ops listed, n ≤ j) :
    ∀ (f : Nat) (listed : Array Bool) (a : Act), HeadInv md ops n listed →
      (∀ j oj, ops[j]? = some oj → j ≠ i → listed.getD j true = false → (∀ e ∈ oj.after, Region.binds md e = true → e.on ≠ i) → oi.apart ops oj = true) →
      i ∈ Region.ready md ops listed → YieldsIn P ops C oi v a →
      wpAnyT P md ops C n L f (listed.setIfInBounds i true) (a.put oi.dst v) → wpAnyT P md ops C n L (f + 1) listed a := by
  intro f
  induction f with
  | zero =>
    intro listed a inv _ hr hy H
    have hun := (mem_ready.1 hr).1
    refine ⟨fun h => (by rw [h] at hr; cases hr), fun j hj => ?_⟩
    have hjn : j < n := by
      rcases Nat.lt_or_ge j n with h | h
      · exact h
      · exact absurd hj (tail_waits hs hc hn inv _ i rfl hin hun j h)
    refine ⟨hjn, ?_⟩
    by_cases hji : j = i
    · subst hji; exact hy.qOp hi H
    · have := hdone _ _ H j (ready_mono hj hji)
      omega
  | succ f ih =>
    intro listed a inv hfree hr hy H
    have hun := (mem_ready.1 hr).1
    refine ⟨fun h => (by rw [h] at hr; cases hr), fun j hj => ?_⟩
    have hjn : j < n := by
      rcases Nat.lt_or_ge j n with h | h
      · exact h
      · exact absurd hj (tail_waits hs hc hn inv _ i rfl hin hun j h)
    refine ⟨hjn, ?_⟩
    by_cases hji : j = i
    · subst hji; exact hy.qOp hi H
    · have h1 := (H.2 j (ready_mono hj hji)).2
      obtain ⟨hjun, oj, hoj, hall⟩ := mem_ready.1 hj
      have hnot : ∀ e ∈ oj.after, Region.binds md e = true → e.on ≠ i := fun e he hb heq => by
        have h1 := hall e he hb
        rw [heq, getD_both hun] at h1
        cases h1
      have h2 := qOp_put hoj (hfree j oj hoj hji hjun hnot) (fun cs b => hsel i oi cs b hi) (fun cs b => hsel j oj cs b hoj) hy h1
      have hfree' : ∀ k ok, ops[k]? = some ok → k ≠ i → (listed.setIfInBounds j true).getD k true = false →
          (∀ e ∈ ok.after, Region.binds md e = true → e.on ≠ i) → oi.apart ops ok = true := fun k ok hk hki hun hno => by
        refine hfree k ok hk hki ?_ hno
        by_cases hjk : j = k
        · subst hjk; exact hjun
        · rw [getD_set_ne true hjk] at hun; exact hun
      refine qOp_mono (fun a' h3 => ih (listed.setIfInBounds j true) a' (inv.set hj hjn) hfree' (ready_mono hr (Ne.symm hji)) h3.1 ?_) h2
      rw [Array.setIfInBounds_comm _ _ hji]
      exact h3.2

theorem wpAnyT_lex {n g : Nat} {Lq : Act → Prop} (hsel : Region.noSelect ops = true) (hs : Region.sinkB md ops n = true) (hc : Region.chainB md ops n = true) (hn : n < ops.size) :
    ∀ (l : List Oper) (k : Nat) (listed : Array Bool) (a : Act), (∀ j, j < l.length → l[j]? = ops[k + j]?) → k + l.length = n → HeadInv md ops n listed →
    Region.lexHead md ops g l.length k listed = true → wpQuiet P ops C Lq l a →
    wpAnyT P md ops C n (fun listed' a' => Region.seqB md ops g n listed' = true ∧ Lq a') l.length listed a
  | [], k, listed, a, _, hk, _, hB, h => by
    have : k = n := by simpa using hk
    subst this
    exact ⟨by simpa [Region.lexHead] using hB, h⟩
  | o :: l, k, listed, a, hl, hk, inv, hB, h => by
    have h0 : ops[k]? = some o := by simpa using (hl 0 (by simp)).symm
    simp only [List.length_cons, Region.lexHead, Bool.and_eq_true] at hB
    obtain ⟨⟨hr, hf⟩, hB'⟩ := hB
    have hkn : k < n := by simp only [List.length_cons] at hk; omega
    have hr' : k ∈ Region.ready md ops listed := by simpa using hr
    have hst : qOp P ops C k (wpQuiet P ops C Lq l) a := by unfold qOp; simp only [h0]; exact h
    obtain ⟨v, hy, hK⟩ := yieldsIn_of_qOp h0 hst
    exact wpAnyT_first h0 (Region.noSelect_spec hsel) hs hc hn hkn (fun listed' a' hL => seqB_ready hL.1) l.length listed a inv (Region.free_spec h0 hf) hr' hy
      (wpAnyT_lex hsel hs hc hn l (k + 1) _ _ (fun j hj => by have := hl (j + 1) (by simp; omega); simpa [Nat.add_assoc, Nat.add_comm 1 j] using this) (by simp only [List.length_cons] at hk; omega) (inv.set hr' hkn) hB' hK)

/-- A region with a forced tail: the head quiet in the class, the tail walked in a world of the class. -/
theorem wp_region_quiet_tail {id : Nat} {Q : Exit → Act → World → Prop} {a : Act} {w : World} {l : List Oper} (n : Nat) (hm : P.follows .mixedOrders = true) (hB : Region.lexTailB .any l.toArray n = true)
    (hC : C { w with drawn := w.drawn + 1 })
    (h : wpQuiet P l.toArray C (fun a' => ∀ w', C w' → wpList P l.toArray Q (l.drop n) a' w') (l.take n) a) : (Code.region id l.toArray true).wp P Q a w := by
  simp only [Region.lexTailB, Bool.and_eq_true, decide_eq_true_eq] at hB
  obtain ⟨⟨⟨⟨hsel, hn⟩, hs⟩, hc⟩, hlex⟩ := hB
  have hn' : n < l.length := by simpa using hn
  have htl : (l.take n).length = n := by simp; omega
  have hdl : (l.drop n).length = l.toArray.size - n := by simp
  have inv0 : HeadInv .any l.toArray n (Array.replicate l.toArray.size false) :=
    ⟨by simp, fun j oj _ hl => (by rw [getD_replicate_false] at hl; cases hl), fun t _ ht => getD_in (by simpa using ht) (getD_replicate_false _ _)⟩
  have H := wpAnyT_lex (C := C) (md := .any) (g := l.toArray.size - n) hsel hs hc hn (l.take n) 0 _ a (fun j hj => by
    have hj' : j < n := by rw [htl] at hj; exact hj
    simp [hj']) (by simpa using htl) inv0 (by rw [htl]; exact hlex) h
  refine wp_region_any hm ?_
  have := wpAny_of_headT (Q' := Q) (g := l.toArray.size - n) (fun listed a' w' hw' hL => by
    have := wpAny_of_seq (md := .any) (Q' := Q) (l.drop n) n listed a' w' (fun j => by simp [List.getElem?_drop]) (by rw [hdl]; exact hL.1) (hL.2 _ hw')
    rwa [hdl] at this) _ _ _ _ hC H
  rw [htl, show n + (l.toArray.size - n) = l.toArray.size by omega] at this
  exact this

/-! ### The same inside a fence that asks nothing: the wide one, or a round under it -/

/-- The wide fence, or a round under it. -/
def Free (F : Fence) : Prop := F = Fence.wide ∨ ∃ l, F = Fence.wide.inRound l
theorem wide_fn (f : FuncId) : Fence.wide.fn f = True := rfl
theorem free_wide : Free Fence.wide := .inl rfl
theorem free_round (l : Nat) : Free (Fence.wide.inRound l) := .inr ⟨l, rfl⟩
theorem Free.fn {F : Fence} (h : Free F) (f : FuncId) : F.fn f := by
  rcases h with rfl | ⟨l, rfl⟩ <;> exact trivial
theorem Free.depth {F : Fence} (h : Free F) : F.depth = none := by
  rcases h with rfl | ⟨l, rfl⟩ <;> rfl

theorem callsIn_free {F : Fence} (hF : Free F) {m : Nat} {f : FuncId} {args : Array Value} {w : World} {R : Ending → World → Prop} (h : Calls P f args w R) : CallsIn F m P f args w R := by
  rcases hF with rfl | ⟨l, rfl⟩
  · exact callsIn_wide.2 h
  · exact CallsIn.inRound l (callsIn_wide.2 h)

def noDefer (ops : List Oper) : Bool := ops.all fun o => match o.op with | .defer _ => false | _ => true
theorem noDefer_spec {l : List Oper} (h : noDefer l = true) : ∀ o ∈ l, ∀ c, o.op ≠ .defer c := by
  intro o ho c e
  have := List.all_eq_true.1 h o ho
  rw [e] at this
  cases this

theorem wpIn_of_quietF {F : Fence} {m : Nat} (hF : Free F) {o : Oper} (hnd : ∀ c, o.op ≠ .defer c) {a : Act} {K : Act → Prop} {K' : Act → World → Prop} {Q' : Exit → Act → World → Prop} {w : World} (hw : C w) (h : ∀ a w', C w' → K a → K' a w')
    (hh : o.quiet P a C K) : o.wpIn F m P a w K' Q' := by
  obtain ⟨v, h1, h2⟩ := hh
  have h3 := h1 w hw
  unfold Oper.quietAt at h3
  unfold Oper.wpIn
  refine ⟨fun f _ => hF.fn f, ?_⟩
  rw [Oper.semAt_eq _ _ _ hnd]
  generalize (execOp a.eval o).run P w = r at *
  cases r with
  | ok x w' =>
    cases x <;> simp only [Oper.quietUpon] at h3 <;> simp only [Oper.uponIn]
    case value u =>
      obtain ⟨e1, e2⟩ := h3
      rw [e1, e2]
      exact h _ _ hw h2
    case skip =>
      obtain ⟨e1, e2⟩ := h3
      rw [e1, ← e2]
      exact h _ _ hw h2
    case enter f args =>
      obtain ⟨e1, hc⟩ := h3
      rw [e1]
      refine ⟨fun hd => absurd hd (by rw [hF.depth]; simp), ?_⟩
      have hc' := hc.mono (R' := fun e w'' => e = .returned v ∧ C w'') fun _ _ h => h
      exact CallsIn.mono (callsIn_free hF hc') fun e w'' ⟨he, hw''⟩ => by subst he; exact h _ _ hw'' h2
  | halt x w' => simp only [Oper.quietUpon] at h3

theorem wpOpIn_of_qOpF {F : Fence} {m : Nat} (hF : Free F) (hnd : ∀ o ∈ ops.toList, ∀ c, o.op ≠ .defer c) {i : Nat} {a : Act} {K : Act → Prop} {K' : Act → World → Prop} {Q' : Exit → Act → World → Prop} {w : World} (hC : C w) (h : ∀ a w', C w' → K a → K' a w')
    (hh : qOp P ops C i K a) : wpOpIn F m P ops Q' i K' a w := by
  unfold qOp at hh
  unfold wpOpIn
  split
  · rename_i ho; simp only [ho] at hh; exact h _ _ hC hh
  · rename_i o ho
    simp only [ho] at hh
    have hm : o ∈ ops.toList := by
      obtain ⟨hlt, he⟩ := Array.getElem?_eq_some_iff.1 ho
      rw [← he]; exact Array.getElem_mem_toList hlt
    split
    · rename_i hw; simp only [hw, if_true] at hh; exact wpIn_of_quietF hF (hnd o hm) hC h hh
    · rename_i hw; simp only [hw] at hh; exact ⟨fun f _ => hF.fn f, h _ _ hC hh⟩

theorem wpAnyIn_of_quietF {F : Fence} {m : Nat} (hF : Free F) (hnd : ∀ o ∈ ops.toList, ∀ c, o.op ≠ .defer c) {Q : Act → Prop} {Q' : Exit → Act → World → Prop} (hQ : ∀ a w, C w → Q a → Q' .normal a w) : ∀ (fuel : Nat) (listed : Array Bool) (a : Act) (w : World), C w →
    wpAnyQ P md ops C Q fuel listed a → wpAnyIn F m P md ops Q' fuel listed a w
  | 0, _, _, _, hw, h => ⟨h.1, hQ _ _ hw h.2⟩
  | fuel + 1, _, _, _, hw, h => ⟨fun h0 => hQ _ _ hw (h.1 h0), fun i hi => wpOpIn_of_qOpF hF hnd hw (fun a' w' hw' => wpAnyIn_of_quietF hF hnd hQ fuel _ a' w' hw') (h.2 i hi)⟩

/-- A region all of whose operations are quiet in the class, inside a free fence. -/
theorem wpIn_region_quietF {F : Fence} {m : Nat} (hF : Free F) {id : Nat} {Q : Exit → Act → World → Prop} {a : Act} {w : World} {l : List Oper} (hm : P.follows .mixedOrders = true) (hnd : noDefer l = true) (hB : Region.lexB .any l.toArray = true) (hC : C { w with drawn := w.drawn + 1 })
    (h : wpQuiet P l.toArray C (fun a' => ∀ w', C w' → Q .normal a' w') l a) : (Code.region id l.toArray true).wpIn F m P Q a w := by
  simp only [Region.lexB, Bool.and_eq_true] at hB
  refine wpIn_region_any hm (wpAnyIn_of_quietF (Q := fun a' => ∀ w', C w' → Q .normal a' w') hF (by simpa using noDefer_spec hnd) (fun _ w' hw' h => h w' hw') _ _ _ _ hC ?_)
  have := wpAnyQ_lex (C := C) (md := .any) hB.1 l 0 (Array.replicate l.toArray.size false) a (by simp) (by simpa using hB.2) (by simpa using h)
  simpa using this

theorem wpAnyIn_of_headT {F : Fence} {m : Nat} (hF : Free F) (hnd : ∀ o ∈ ops.toList, ∀ c, o.op ≠ .defer c) {n g : Nat} {L : Array Bool → Act → Prop} {Q' : Exit → Act → World → Prop} (hL : ∀ listed a w, C w → L listed a → wpAnyIn F m P md ops Q' g listed a w) :
    ∀ (f : Nat) (listed : Array Bool) (a : Act) (w : World), C w → wpAnyT P md ops C n L f listed a → wpAnyIn F m P md ops Q' (f + g) listed a w
  | 0, listed, a, w, hw, h => by rw [Nat.zero_add]; exact hL _ _ _ hw h
  | f + 1, listed, a, w, hw, h => by
    rw [show f + 1 + g = (f + g) + 1 by omega]
    exact ⟨fun h0 => absurd h0 h.1, fun i hi => wpOpIn_of_qOpF hF hnd hw (fun a' w' hw' h' => wpAnyIn_of_headT hF hnd hL f _ a' w' hw' h') (h.2 i hi).2⟩

theorem wpAnyIn_of_seqF {F : Fence} {m : Nat} {Q' : Exit → Act → World → Prop} : ∀ (l : List Oper) (k : Nat) (listed : Array Bool) (a : Act) (w : World), (∀ j, l[j]? = ops[k + j]?) →
    Region.seqB md ops l.length k listed = true → wpListIn F m P ops Q' l a w → wpAnyIn F m P md ops Q' l.length listed a w
  | [], _, _, _, _, _, hB, h => ⟨by simpa [Region.seqB] using hB, h⟩
  | o :: l, k, listed, a, w, hl, hB, h => by
    have h0 : ops[k]? = some o := by simpa using (hl 0).symm
    simp only [List.length_cons, Region.seqB, Bool.and_eq_true, decide_eq_true_eq] at hB
    refine ⟨fun h1 => (by rw [hB.1] at h1; cases h1), fun i hi => ?_⟩
    rw [hB.1] at hi
    have hik : i = k := by simpa using hi
    subst hik
    have hw : wpOpIn F m P ops Q' i (wpListIn F m P ops Q' l) a w := by unfold wpOpIn; simp only [h0]; exact h
    exact wpOpIn_mono (fun a' w' h' => wpAnyIn_of_seqF l (i + 1) _ a' w' (fun j => by have := hl (j + 1); simpa [Nat.add_assoc, Nat.add_comm 1 j] using this) hB.2 h') hw

/-- A region with a forced tail, inside a free fence. -/
theorem wpIn_region_quiet_tailF {F : Fence} {m : Nat} (hF : Free F) {id : Nat} {Q : Exit → Act → World → Prop} {a : Act} {w : World} {l : List Oper} (n : Nat) (hm : P.follows .mixedOrders = true) (hnd : noDefer l = true) (hB : Region.lexTailB .any l.toArray n = true)
    (hC : C { w with drawn := w.drawn + 1 })
    (h : wpQuiet P l.toArray C (fun a' => ∀ w', C w' → wpListIn F m P l.toArray Q (l.drop n) a' w') (l.take n) a) : (Code.region id l.toArray true).wpIn F m P Q a w := by
  simp only [Region.lexTailB, Bool.and_eq_true, decide_eq_true_eq] at hB
  obtain ⟨⟨⟨⟨hsel, hn⟩, hs⟩, hc⟩, hlex⟩ := hB
  have hn' : n < l.length := by simpa using hn
  have htl : (l.take n).length = n := by simp; omega
  have hdl : (l.drop n).length = l.toArray.size - n := by simp
  have inv0 : HeadInv .any l.toArray n (Array.replicate l.toArray.size false) :=
    ⟨by simp, fun j oj _ hl => (by rw [getD_replicate_false] at hl; cases hl), fun t _ ht => getD_in (by simpa using ht) (getD_replicate_false _ _)⟩
  have H := wpAnyT_lex (C := C) (md := .any) (g := l.toArray.size - n) hsel hs hc hn (l.take n) 0 _ a (fun j hj => by
    have hj' : j < n := by rw [htl] at hj; exact hj
    simp [hj']) (by simpa using htl) inv0 (by rw [htl]; exact hlex) h
  refine wpIn_region_any hm ?_
  have := wpAnyIn_of_headT (F := F) (m := m) (Q' := Q) (g := l.toArray.size - n) hF (by simpa using noDefer_spec hnd) (fun listed a' w' hw' hL => by
    have := wpAnyIn_of_seqF (F := F) (m := m) (md := .any) (Q' := Q) (l.drop n) n listed a' w' (fun j => by simp [List.getElem?_drop]) (by rw [hdl]; exact hL.1) (hL.2 _ hw')
    rwa [hdl] at this) _ _ _ _ hC H
  rw [htl, show n + (l.toArray.size - n) = l.toArray.size by omega] at this
  exact this

/-! ### The class: worlds that extend W below its heap's size -/

/-- A world that extends W. -/
def Ext (W : World) : Type := { w : World // Below W.heap.size W w }
instance extNonempty (W : World) : Nonempty (Ext W) := ⟨⟨W, Below.refl _ _⟩⟩
def Ext.w {W : World} (x : Ext W) : World := x.1
/-- The class of the worlds that extend W, in a form that the walk takes apart. -/
def Grows (W : World) (w : World) : Prop := ∃ x : Ext W, w = x.w
theorem grows_draw {W w : World} (h : Below W.heap.size W w) : Grows W { w with drawn := w.drawn + 1 } := ⟨⟨_, h.drew⟩, rfl⟩
theorem grows_refl (W : World) : Grows W { W with drawn := W.drawn + 1 } := grows_draw (Below.refl _ _)
theorem Ext.below {W : World} (x : Ext W) : Below W.heap.size W x.w := x.2
theorem Ext.cell {W : World} (x : Ext W) {p : Addr} (h : p.block < W.heap.size) : x.w.cell? p = W.cell? p := x.2.cell h
theorem Ext.frozen {W : World} (x : Ext W) {p : Addr} (h : p.block < W.heap.size) : x.w.frozen? p = W.frozen? p := x.2.frozen h

theorem Ext.keeps {W : World} (x : Ext W) (B : Nat) : KeepsFrom B W x.w := ⟨x.2.size, fun k _ _ h _ => (x.2.block k (Array.getElem?_eq_some_iff.1 h).1).trans h⟩

/-- What a call hands back: the value, and a world that extends the one in which it began. -/
def Ret (P : Program) (f : FuncId) (args : Array Value) (v : Value) : Prop := ∀ w, Calls P f args w fun e w' => e = .returned v ∧ Below w.heap.size w w'

theorem Ret.of_same {P : Program} {f : FuncId} {args : Array Value} {v : Value} (h : ∀ w, Calls P f args w fun e w' => e = .returned v ∧ w = w') : Ret P f args v := fun w => (h w).mono fun _ _ ⟨he, hw⟩ => ⟨he, hw ▸ Below.refl _ _⟩

theorem Ret.at {P : Program} {f : FuncId} {args : Array Value} {v : Value} (h : Ret P f args v) {W : World} (x : Ext W) :
    Calls P f args x.w fun e w'' => e = .returned v ∧ ∃ y : Ext W, w'' = y.w :=
  (h x.w).mono fun _ w' ⟨he, hb⟩ => ⟨he, ⟨w', x.2.trans (hb.mono x.2.size)⟩, rfl⟩

end
end Go.Proofs.YtbbpmcebakckaaaGreatDoor

/- Regions that draw their order, of three kinds of operations: some that yield one value in every world of a class and leave a world of the class; some that yield one value in every world whatever and leave it as it was; and a chain of others, in a forced order behind the first kind. One walk serves every order. Conditions: the region's own closed checks. -/
namespace Go.Proofs.YtbbpmcebakckaaaGreatDoor
open Go Go.RowKit Go.BigFrame

section
variable {P : Program} {ops : Array Oper} {md : Region.Mode} {C : World → Prop}

/-- What an operation of the first two kinds yields in a state: by the class, or in every world. -/
def YK (P : Program) (ops : Array Oper) (C : World → Prop) (head : Bool) (o : Oper) (v : Value) (a : Act) : Prop :=
  (Region.wanted o (yielded ops a.tmps) = true ∧ (if head = true then ∀ w, C w → o.quietAt P a C w v else ∀ w, (execOp a.eval o).run P w = .ok (.value v) w)) ∨
  (Region.wanted o (yielded ops a.tmps) = false ∧ v = undef)

theorem YK.of_same {head : Bool} {o : Oper} {v : Value} {a a' : Act} (hy : YK P ops C head o v a) (he : execOp a'.eval o = execOp a.eval o)
    (hw : Region.wanted o (yielded ops a'.tmps) = Region.wanted o (yielded ops a.tmps)) : YK P ops C head o v a' := by
  unfold YK Oper.quietAt at *
  rw [he, hw]
  exact hy

/-- An entry: the operation's index, whether it is of the first kind, itself, its value. -/
abbrev Ent := Nat × Bool × Oper × Value

/-- The frame with the values of all entries that have not come up yet. -/
def fillQ : List Ent → Array Bool → Act → Act
  | [], _, a => a
  | q :: r, listed, a => fillQ r listed (if listed.getD q.1 true = false then a.put q.2.2.1.dst q.2.2.2 else a)

theorem getD_set_true' {listed : Array Bool} {i : Nat} : (listed.setIfInBounds i true).getD i true = true := by
  rcases Nat.lt_or_ge i listed.size with h | h
  · simp [h]
  · simp

theorem fillQ_skip : ∀ (qs : List Ent) (listed : Array Bool) (a : Act) (i : Nat), (∀ q ∈ qs, q.1 ≠ i) → fillQ qs (listed.setIfInBounds i true) a = fillQ qs listed a
  | [], _, _, _, _ => rfl
  | q :: r, listed, a, i, h => by
    have h0 : q.1 ≠ i := h q (by simp)
    simp only [fillQ]
    rw [getD_set_ne true (Ne.symm h0), fillQ_skip r listed _ i (fun q hq => h q (by simp [hq]))]

theorem fillQ_put : ∀ (qs : List Ent) (listed : Array Bool) (a : Act) (d : Option Tmp) (u : Value), (∀ q ∈ qs, ∀ e, d = some e → q.2.2.1.dst ≠ some e) →
    fillQ qs listed (a.put d u) = (fillQ qs listed a).put d u
  | [], _, _, _, _, _ => rfl
  | q :: r, listed, a, d, u, h => by
    simp only [fillQ]
    have hr : ∀ q ∈ r, ∀ e, d = some e → q.2.2.1.dst ≠ some e := fun q hq => h q (by simp [hq])
    split
    · rw [Act.put_comm a u q.2.2.2 (h q (by simp)), fillQ_put r listed _ d u hr]
    · exact fillQ_put r listed _ d u hr

theorem fillQ_done : ∀ (qs : List Ent) (listed : Array Bool) (a : Act), (∀ q ∈ qs, listed.getD q.1 true = true) → fillQ qs listed a = a
  | [], _, _, _ => rfl
  | q :: r, listed, a, h => by
    simp only [fillQ]
    rw [if_neg (by rw [h q (by simp)]; simp), fillQ_done r listed a (fun q hq => h q (by simp [hq]))]

theorem fillQ_take : ∀ (qs : List Ent) (listed : Array Bool) (a : Act) (q : Ent), q ∈ qs → (qs.map (·.1)).Nodup → listed.getD q.1 true = false →
    (∀ p ∈ qs, p.1 ≠ q.1 → ∀ e, q.2.2.1.dst = some e → p.2.2.1.dst ≠ some e) → fillQ qs (listed.setIfInBounds q.1 true) (a.put q.2.2.1.dst q.2.2.2) = fillQ qs listed a
  | [], _, _, _, h, _, _, _ => by cases h
  | p :: r, listed, a, q, h, hn, hu, hd => by
    simp only [List.map_cons, List.nodup_cons] at hn
    simp only [fillQ]
    rcases List.mem_cons.1 h with rfl | hm
    · rw [getD_set_true', if_neg (by simp), if_pos hu]
      exact fillQ_skip r listed _ _ (fun p hp e => hn.1 (by rw [← e]; exact List.mem_map.2 ⟨p, hp, rfl⟩))
    · have hne : p.1 ≠ q.1 := fun e => hn.1 (by rw [e]; exact List.mem_map.2 ⟨q, hm, rfl⟩)
      rw [getD_set_ne true (Ne.symm hne)]
      split
      · rw [← Act.put_comm (a) p.2.2.2 q.2.2.2 (fun e he hq => hd p (by simp) hne e hq he)]
        exact fillQ_take r listed _ q hm hn.2 hu (fun p hp => hd p (by simp [hp]))
      · exact fillQ_take r listed _ q hm hn.2 hu (fun p hp => hd p (by simp [hp]))

theorem fillQ_same : ∀ (qs : List Ent) (listed : Array Bool) (a : Act) (o : Oper), (∀ cs b, o.op ≠ .select cs b) → (∀ q ∈ qs, listed.getD q.1 true = false → ∀ d, q.2.2.1.dst = some d → d ∉ o.looksAt ops) →
    execOp (fillQ qs listed a).eval o = execOp a.eval o ∧ Region.wanted o (yielded ops (fillQ qs listed a).tmps) = Region.wanted o (yielded ops a.tmps)
  | [], _, _, _, _, _ => ⟨rfl, rfl⟩
  | q :: r, listed, a, o, hs, h => by
    simp only [fillQ]
    have hr := fun b => fillQ_same r listed b o hs (fun q hq => h q (by simp [hq]))
    split
    · rename_i hu
      have h1 := h q (by simp) hu
      exact ⟨(hr _).1.trans (execOp_put o hs a _ _ h1), (hr _).2.trans (wanted_put o a _ _ h1)⟩
    · exact hr a

/-- The checks of a region, the entries told by their indices and kinds, the chain by its indices. -/
structure MixOk (md : Region.Mode) (ops : Array Oper) (ks : List Nat) (ts : List Nat) : Prop where
  sel : ∀ (j : Nat) (o : Oper) cs b, ops[j]? = some o → o.op ≠ .select cs b
  len : ks.length = ops.size
  kinds : ∀ t, t ∈ ts ↔ ks[t]? = some 2
  edges : ∀ (j : Nat) (oj : Oper), ops[j]? = some oj → ∀ e ∈ oj.after, Region.binds md e = true → e.on < j
  looks : ∀ (i j : Nat) (oi oj : Oper), ops[i]? = some oi → ops[j]? = some oj → ks[i]? ≠ some 2 → ∀ d, oi.dst = some d → d ∈ oj.looksAt ops → Region.waitsFor md ops j i = true
  dsts : ∀ (i j : Nat) (oi oj : Oper), ops[i]? = some oi → ops[j]? = some oj → i ≠ j → ks[i]? ≠ some 2 → ∀ d, oi.dst = some d → oj.dst ≠ some d
  tails : ∀ (i j : Nat) (oi oj : Oper), ops[i]? = some oi → ops[j]? = some oj → ks[i]? = some 2 → ks[j]? ≠ some 2 → ∀ d, oi.dst = some d → d ∈ oj.looksAt ops → Region.waitsFor md ops i j = true
  sink : ∀ i, ks[i]? = some 0 → ∀ t, ts.head? = some t → ∃ j, i < j ∧ (ks[j]? = some 0 ∨ j = t) ∧ Region.waitsFor md ops j i = true
  chain : ∀ k s t, ts[k]? = some s → ts[k + 1]? = some t → Region.waitsFor md ops t s = true
  ups : ts.Nodup

/-- What has come up is closed under what it waited for. -/
def Closed (md : Region.Mode) (ops : Array Oper) (listed : Array Bool) : Prop :=
  listed.size = ops.size ∧ ∀ j oj, ops[j]? = some oj → listed.getD j false = true → ∀ e ∈ oj.after, Region.binds md e = true → listed.getD e.on false = true

theorem Closed.set {listed : Array Bool} {i : Nat} (h : Closed md ops listed) (hi : i ∈ Region.ready md ops listed) : Closed md ops (listed.setIfInBounds i true) := by
  obtain ⟨_, oi, hoi, hall⟩ := mem_ready.1 hi
  refine ⟨by simp [h.1], fun j oj hj hl e he hb => ?_⟩
  by_cases hij : i = j
  · subst hij
    have : oj = oi := Option.some.inj (hj.symm.trans hoi)
    subst this
    exact getD_set_true (hall e he hb)
  · rw [getD_set_ne false hij] at hl
    exact getD_set_true (h.2 j oj hj hl e he hb)

theorem ready_waits {listed : Array Bool} {i j : Nat} (hj : j ∈ Region.ready md ops listed) (h : Region.waitsFor md ops j i = true) : listed.getD i false = true := by
  obtain ⟨oj, hoj, e, he, hb, hon⟩ := Region.waitsFor_spec h
  obtain ⟨_, o, ho, hall⟩ := mem_ready.1 hj
  have : oj = o := Option.some.inj (hoj.symm.trans ho)
  subst this
  rw [← hon]; exact hall e he hb

theorem closed_waits {listed : Array Bool} (hc : Closed md ops listed) {i j : Nat} (hj : listed.getD j false = true) (h : Region.waitsFor md ops j i = true) : listed.getD i false = true := by
  obtain ⟨oj, hoj, e, he, hb, hon⟩ := Region.waitsFor_spec h
  rw [← hon]; exact hc.2 j oj hoj hj e he hb

theorem getD_true_of_false {listed : Array Bool} {i : Nat} (h : listed.getD i false = true) : listed.getD i true = true := by
  rcases Nat.lt_or_ge i listed.size with h' | h'
  · simp [h'] at h ⊢; exact h
  · simp [Array.getElem?_eq_none h'] at h

/-- The first of the chain comes up behind all of the first kind. -/
theorem head_done {ks ts : List Nat} {listed : Array Bool} (ok : MixOk md ops ks ts) (hc : Closed md ops listed) {t : Nat} (ht : ts.head? = some t) (hr : t ∈ Region.ready md ops listed) :
    ∀ (n i : Nat), ops.size - i ≤ n → ks[i]? = some 0 → listed.getD i false = true := by
  intro n
  induction n with
  | zero =>
    intro i hn hi
    have : i < ks.length := (List.getElem?_eq_some_iff.1 hi).1
    rw [ok.len] at this
    omega
  | succ n ih =>
    intro i hn hi
    obtain ⟨j, hij, hj, hw⟩ := ok.sink i hi t ht
    rcases hj with hj | rfl
    · exact closed_waits hc (ih j (by omega) hj) hw
    · exact ready_waits hr hw

theorem exists_ready {ks ts : List Nat} {listed : Array Bool} (ok : MixOk md ops ks ts) (hc : Closed md ops listed) : ∀ i, listed.getD i true = false → ∃ j, j ∈ Region.ready md ops listed := by
  intro i
  induction i using Nat.strongRecOn with
  | _ i ih =>
    intro hi
    by_cases h : ∃ oi, ops[i]? = some oi ∧ ∃ e ∈ oi.after, Region.binds md e = true ∧ listed.getD e.on false = false
    · obtain ⟨oi, hoi, e, he, hb, hf⟩ := h
      have hlt := ok.edges i oi hoi e he hb
      have hil : i < listed.size := by
        rw [hc.1]; exact (Array.getElem?_eq_some_iff.1 hoi).1
      exact ih e.on hlt (getD_in (by omega) hf)
    · refine ⟨i, mem_ready.2 ⟨hi, ?_⟩⟩
      have hil : i < ops.size := by
        rw [← hc.1]
        rcases Nat.lt_or_ge i listed.size with h' | h'
        · exact h'
        · simp [Array.getElem?_eq_none h'] at hi
      refine ⟨ops[i], by simp [hil], fun e he hb => ?_⟩
      cases hl : listed.getD e.on false with
      | true => rfl
      | false => exact absurd ⟨ops[i], by simp [hil], e, he, hb, hl⟩ h

/-- What is shown of the entries in the frame of the whole head. -/
structure Entries (P : Program) (md : Region.Mode) (ops : Array Oper) (C : World → Prop) (ks : List Nat) (qs : List Ent) (listed : Array Bool) (A : Act) : Prop where
  nodup : (qs.map (·.1)).Nodup
  at_ : ∀ q ∈ qs, ops[q.1]? = some q.2.2.1 ∧ ks[q.1]? ≠ some 2 ∧ (q.2.1 = true → ks[q.1]? = some 0) ∧ (listed.getD q.1 true = false → YK P ops C q.2.1 q.2.2.1 q.2.2.2 A)
  all : ∀ i, i < ops.size → ks[i]? ≠ some 2 → ∃ q ∈ qs, q.1 = i

/-- The chain's operations. -/
def chainOps (ops : Array Oper) (tl : List Nat) : List Oper := tl.filterMap (ops[·]?)

/-- Where a panic is not let in. -/
def calmPost (Q : Exit → Act → World → Prop) : Exit → Act → World → Prop
  | .normal, a, w => Q .normal a w
  | _, _, _ => False
theorem calmPost_normal (Q : Exit → Act → World → Prop) (a : Act) (w : World) : calmPost Q .normal a w = Q .normal a w := rfl
theorem not_letsOut (Q : Exit → Act → World → Prop) : ¬ LetsOut (calmPost Q) := fun ⟨_, _, h⟩ => h

theorem rowsIn_free {F : Fence} (hF : Free F) {m : Nat} {row : String} {args : Array Value} {w : World} {R : Value → World → Prop} (h : Rows P row args w R) : RowsIn F m P row args w R := by
  have k : RowsIn Fence.wide m P row args w R := fun c cs _ => let ⟨v, w', r, s⟩ := h c cs; ⟨v, w', r, stepsIn_wide.2 s⟩
  rcases hF with rfl | ⟨l, rfl⟩
  · exact k
  · exact k

variable {F : Fence} {m : Nat}

/-- The frame with other defers. -/
def Act.deferring (a : Act) (ds : List Deferred) : Act := { a with defers := ds }
theorem deferring_put (a : Act) (d : Option Tmp) (v : Value) (ds : List Deferred) : Act.deferring (a.put d v) ds = (Act.deferring a ds).put d v := by cases d <;> rfl
theorem deferring_self (a : Act) : Act.deferring a a.defers = a := rfl
theorem put_defers (a : Act) (d : Option Tmp) (v : Value) : (a.put d v).defers = a.defers := by cases d <;> rfl
theorem fillQ_deferring : ∀ (qs : List Ent) (listed : Array Bool) (a : Act) (ds : List Deferred), fillQ qs listed (Act.deferring a ds) = Act.deferring (fillQ qs listed a) ds
  | [], _, _, _ => rfl
  | q :: r, listed, a, ds => by
    simp only [fillQ]
    split
    · rw [← deferring_put, fillQ_deferring r]
    · rw [fillQ_deferring r]
theorem fillQ_defers : ∀ (qs : List Ent) (listed : Array Bool) (a : Act), (fillQ qs listed a).defers = a.defers
  | [], _, _ => rfl
  | q :: r, listed, a => by
    simp only [fillQ]
    split
    · rw [fillQ_defers r, put_defers]
    · rw [fillQ_defers r]

theorem uponIn_frame (hF : Free F) {o : Oper} {a a' : Act} {K K' : Act → World → Prop} {Q Q' : Exit → Act → World → Prop} (hd : a.defers = a'.defers)
    (hK : ∀ ds v w, K ((Act.deferring a ds).put o.dst v) w → K' ((Act.deferring a' ds).put o.dst v) w)
    {r : Result Next} (h : o.upon P a K (calmPost Q) r) : o.uponIn F m P a' K' Q' r := by
  have hK0 : ∀ v w, K (a.put o.dst v) w → K' (a'.put o.dst v) w := fun v w h => by
    have := hK a.defers v w (by rw [deferring_self]; exact h)
    rw [hd, deferring_self] at this
    exact this
  cases r with
  | ok x w' =>
    cases x with
    | value v => exact hK0 _ _ h
    | skip => exact hK0 _ _ h
    | defer d => exact hK (d :: a'.defers) _ _ (by rw [← hd]; exact h)
    | enter f args =>
      refine ⟨fun hd => absurd hd (by rw [hF.depth]; simp), callsIn_free hF (Calls.mono h fun e w'' he => ?_)⟩
      cases e with
      | returned v => exact hK0 _ _ he
      | panicked c => exact he.elim
      | outgrown => exact (not_letsOut Q he).elim
    | row row args => exact ⟨fun hd => absurd hd (by rw [hF.depth]; simp), rowsIn_free hF (Rows.mono h fun _ _ he => hK0 _ _ he)⟩
    | _ => exact h.elim
  | halt x w' =>
    cases x <;> exact h.elim

/-- One node: every order from here on. -/
theorem mix_main (hF : Free F) {ks ts : List Nat} (ok : MixOk md ops ks ts) (hnd : ∀ o ∈ ops.toList, ∀ c, o.op ≠ .defer c) {Q : Exit → Act → World → Prop} :
    ∀ (fuel : Nat) (U : List Nat) (listed : Array Bool) (a : Act) (w : World) (done tl : List Nat) (qs : List Ent) (A : Act),
      U.Nodup → (∀ i, i ∈ U ↔ listed.getD i true = false) → U.length = fuel → Closed md ops listed → ts = done ++ tl → (∀ t ∈ tl, listed.getD t true = false) → (∀ t ∈ done, listed.getD t true = true) →
      Entries P md ops C ks qs listed A → fillQ qs listed a = A →
      ((done = [] ∧ C w ∧ ∀ w', C w' → wpList P ops (calmPost Q) (chainOps ops tl) A w') ∨ ((∀ i, ks[i]? = some 0 → listed.getD i true = true) ∧ wpList P ops (calmPost Q) (chainOps ops tl) A w)) →
      wpAnyIn F m P md ops Q fuel listed a w := by
  intro fuel
  induction fuel with
  | zero =>
    intro U listed a w done tl qs A hU hUm hUl hc hts htl hdn hE hA hw
    have hnil : U = [] := List.eq_nil_of_length_eq_zero hUl
    subst hnil
    have hall : ∀ i, listed.getD i true = true := fun i => by
      cases hi : listed.getD i true with
      | true => rfl
      | false => have := (hUm i).2 hi; cases this
    have htn : tl = [] := by
      cases tl with
      | nil => rfl
      | cons t r => have := htl t (by simp); rw [hall] at this; cases this
    subst htn
    rw [fillQ_done qs listed a (fun q _ => hall q.1)] at hA
    subst hA
    refine ⟨?_, ?_⟩
    · apply List.eq_nil_iff_forall_not_mem.2
      intro j hj
      have := (mem_ready.1 hj).1
      rw [hall] at this; cases this
    · rcases hw with ⟨_, hC, h⟩ | ⟨_, h⟩
      · exact h w hC
      · exact h
  | succ fuel ih =>
    intro U listed a w done tl qs A hU hUm hUl hc hts htl hdn hE hA hw
    refine ⟨fun h0 => ?_, fun i hi => ?_⟩
    · obtain ⟨j, hj⟩ : ∃ j, j ∈ U := by
        cases U with
        | nil => cases hUl
        | cons x r => exact ⟨x, by simp⟩
      obtain ⟨k, hk⟩ := exists_ready ok hc j ((hUm j).1 hj)
      rw [h0] at hk; cases hk
    · obtain ⟨hun, oi, hoi, hall⟩ := mem_ready.1 hi
      have hilt : i < ops.size := (Array.getElem?_eq_some_iff.1 hoi).1
      have hiU : i ∈ U := (hUm i).2 hun
      have hU' : (U.erase i).Nodup := hU.erase i
      have hUm' : ∀ j, j ∈ U.erase i ↔ (listed.setIfInBounds i true).getD j true = false := fun j => by
        by_cases hji : j = i
        · subst hji
          rw [getD_set_true']
          simp [hU.not_mem_erase]
        · rw [List.mem_erase_of_ne hji, hUm j, getD_set_ne true (Ne.symm hji)]
      have hUl' : (U.erase i).length = fuel := by rw [List.length_erase_of_mem hiU, hUl]; rfl
      have hc' := hc.set hi
      have hom : oi ∈ ops.toList := by
        obtain ⟨hlt, he⟩ := Array.getElem?_eq_some_iff.1 hoi
        rw [← he]; exact Array.getElem_mem_toList hlt
      have hsame := fillQ_same (ops := ops) qs listed a oi (fun cs b => ok.sel i oi cs b hoi) (fun q hq hqu d hd hin => by
        obtain ⟨hq1, hq2, _, _⟩ := hE.at_ q hq
        have hwait := ok.looks q.1 i q.2.2.1 oi hq1 hoi hq2 d hd hin
        have := getD_true_of_false (ready_waits hi hwait)
        rw [hqu] at this; cases this)
      rw [hA] at hsame
      by_cases hk : ks[i]? = some 2
      · -- the chain's next
        have hit : i ∈ ts := (ok.kinds i).2 hk
        have hitl : i ∈ tl := by
          rw [hts] at hit
          rcases List.mem_append.1 hit with h | h
          · have := hdn i h; rw [hun] at this; cases this
          · exact h
        obtain ⟨tl', rfl⟩ : ∃ tl', tl = i :: tl' := by
          obtain ⟨k, hk1⟩ := List.getElem?_of_mem hitl
          cases k with
          | zero =>
            cases tl with
            | nil => cases hitl
            | cons x r => simp at hk1; exact ⟨r, by rw [hk1]⟩
          | succ k =>
            have hklt : k < tl.length := by have := (List.getElem?_eq_some_iff.1 hk1).1; omega
            have h1 : ts[done.length + k]? = some tl[k] := by rw [hts, List.getElem?_append_right (by omega)]; simp [hklt]
            have h2 : ts[done.length + k + 1]? = some i := by rw [hts, List.getElem?_append_right (by omega)]; rw [show done.length + k + 1 - done.length = k + 1 by omega]; exact hk1
            have := ready_waits hi (ok.chain _ _ _ h1 h2)
            have h3 := htl tl[k] (List.getElem_mem hklt)
            rw [getD_true_of_false this] at h3; cases h3
        have hW : wpList P ops (calmPost Q) (chainOps ops (i :: tl')) A w ∧ (∀ j, ks[j]? = some 0 → (listed.setIfInBounds i true).getD j true = true) := by
          rcases hw with ⟨hdn0, hC, h⟩ | ⟨h0, h⟩
          · refine ⟨h w hC, fun j hj => ?_⟩
            have := head_done ok hc (t := i) (by rw [hts, hdn0]; rfl) hi (ops.size - j) j (Nat.le_refl _) hj
            exact getD_true_of_false (getD_set_true this)
          · refine ⟨h, fun j hj => ?_⟩
            by_cases hji : j = i
            · subst hji; exact getD_set_true'
            · rw [getD_set_ne true (Ne.symm hji)]; exact h0 j hj
        obtain ⟨hW, hheads⟩ := hW
        have hch : chainOps ops (i :: tl') = oi :: chainOps ops tl' := by simp [chainOps, hoi]
        rw [hch] at hW
        have hput : ∀ (b : Act) (v : Value), fillQ qs (listed.setIfInBounds i true) (b.put oi.dst v) = (fillQ qs listed b).put oi.dst v := fun b v => by
          rw [fillQ_put qs _ b oi.dst v (fun q hq e he hqe => by
            obtain ⟨hq1, hq2, _, _⟩ := hE.at_ q hq
            have hne : q.1 ≠ i := fun e' => by rw [e'] at hq2; exact hq2 hk
            exact ok.dsts q.1 i q.2.2.1 oi hq1 hoi hne hq2 e hqe he)]
          rw [fillQ_skip qs listed b i (fun q hq e' => by obtain ⟨_, hq2, _, _⟩ := hE.at_ q hq; rw [e'] at hq2; exact hq2 hk)]
        have hE' : ∀ (ds : List Deferred) (v : Value), Entries P md ops C ks qs (listed.setIfInBounds i true) ((Act.deferring A ds).put oi.dst v) := fun ds v => ⟨hE.nodup, fun q hq => by
          obtain ⟨hq1, hq2, hq3, hq4⟩ := hE.at_ q hq
          refine ⟨hq1, hq2, hq3, fun hqu => ?_⟩
          have hne : q.1 ≠ i := fun e => by rw [e] at hq2; exact hq2 hk
          rw [getD_set_ne true (Ne.symm hne)] at hqu
          have hl : ∀ d, oi.dst = some d → d ∉ q.2.2.1.looksAt ops := fun d hd hin => by
            have := getD_true_of_false (ready_waits hi (ok.tails i q.1 oi q.2.2.1 hoi hq1 hk hq2 d hd hin))
            rw [hqu] at this; cases this
          have e1 : execOp ((Act.deferring A ds).put oi.dst v).eval q.2.2.1 = execOp A.eval q.2.2.1 := by rw [execOp_put _ (fun cs b => ok.sel _ _ cs b hq1) _ _ _ hl]; rfl
          have e2 : Region.wanted q.2.2.1 (yielded ops ((Act.deferring A ds).put oi.dst v).tmps) = Region.wanted q.2.2.1 (yielded ops A.tmps) := by rw [wanted_put _ _ _ _ hl]; rfl
          exact (hq4 hqu).of_same e1 e2, hE.all⟩
        have next : ∀ (ds : List Deferred) (v : Value) (w' : World), wpList P ops (calmPost Q) (chainOps ops tl') ((Act.deferring A ds).put oi.dst v) w' →
            wpAnyIn F m P md ops Q fuel (listed.setIfInBounds i true) ((Act.deferring a ds).put oi.dst v) w' := fun ds v w' hnx =>
          ih (U.erase i) _ _ w' (done ++ [i]) tl' qs _ hU' hUm' hUl' hc' (by simp [hts]) (fun t ht => by
              have hne : t ≠ i := fun e => by
                have hn := ok.ups
                rw [hts] at hn
                have := (List.nodup_append.1 hn).2.1
                simp only [List.nodup_cons] at this
                exact this.1 (e ▸ ht)
              rw [getD_set_ne true (Ne.symm hne)]; exact htl t (by simp [ht]))
            (fun t ht => by
              rcases List.mem_append.1 ht with h | h
              · by_cases hti : t = i
                · subst hti; exact getD_set_true'
                · rw [getD_set_ne true (Ne.symm hti)]; exact hdn t h
              · simp at h; subst h; exact getD_set_true')
            (hE' ds v) (by rw [hput, fillQ_deferring, hA]) (.inr ⟨hheads, hnx⟩)
        unfold wpOpIn
        simp only [hoi]
        simp only [wpList] at hW
        rw [hsame.2] at hW
        have hadA : A.defers = a.defers := by rw [← hA, fillQ_defers]
        by_cases hwt : Region.wanted oi (yielded ops a.tmps) = true
        · rw [if_pos hwt] at hW
          rw [if_pos hwt]
          refine ⟨fun f _ => hF.fn f, ?_⟩
          rw [Oper.semAt_eq _ _ _ (hnd oi hom)]
          rcases hW with hW | ⟨_, hl⟩
          · unfold Oper.wp at hW
            rw [hsame.1] at hW
            exact uponIn_frame hF hadA (fun ds v w' h => next ds v w' h) hW
          · exact absurd hl (not_letsOut Q)
        · rw [if_neg hwt] at hW
          rw [if_neg hwt]
          refine ⟨fun f _ => hF.fn f, ?_⟩
          have := next A.defers undef w (by rw [deferring_self]; exact hW)
          rw [hadA, deferring_self] at this
          exact this
      · -- an entry
        obtain ⟨q, hq, rfl⟩ := hE.all i hilt hk
        obtain ⟨hq1, hq2, hq3, hq4⟩ := hE.at_ q hq
        have : oi = q.2.2.1 := Option.some.inj (hoi.symm.trans hq1)
        subst this
        have hya : YK P ops C q.2.1 q.2.2.1 q.2.2.2 a := (hq4 hun).of_same hsame.1.symm hsame.2.symm
        have htake := fillQ_take qs listed a q hq hE.nodup hun (fun p hp hpne e he hpe => by
          obtain ⟨hp1, _, _, _⟩ := hE.at_ p hp
          exact ok.dsts q.1 p.1 q.2.2.1 p.2.2.1 hq1 hp1 (Ne.symm hpne) hq2 e he hpe)
        have hmono : ∀ j, listed.getD j true = true → (listed.setIfInBounds q.1 true).getD j true = true := fun j hj => by
          by_cases hji : j = q.1
          · subst hji; exact getD_set_true'
          · rw [getD_set_ne true (Ne.symm hji)]; exact hj
        have htl' : ∀ t ∈ tl, (listed.setIfInBounds q.1 true).getD t true = false := fun t ht => by
          have hne : q.1 ≠ t := fun e => hk (by rw [e]; exact (ok.kinds t).1 (by rw [hts]; simp [ht]))
          rw [getD_set_ne true hne]; exact htl t ht
        have next : ∀ w', ((done = [] ∧ C w' ∧ ∀ w'', C w'' → wpList P ops (calmPost Q) (chainOps ops tl) A w'') ∨ ((∀ j, ks[j]? = some 0 → listed.getD j true = true) ∧ wpList P ops (calmPost Q) (chainOps ops tl) A w')) →
            wpAnyIn F m P md ops Q fuel (listed.setIfInBounds q.1 true) (a.put q.2.2.1.dst q.2.2.2) w' := fun w' hw' =>
          ih (U.erase q.1) _ _ w' done tl qs A hU' hUm' hUl' hc' hts htl' (fun t ht => hmono t (hdn t ht)) ⟨hE.nodup, fun p hp => by
            obtain ⟨p1, p2, p3, p4⟩ := hE.at_ p hp
            refine ⟨p1, p2, p3, fun hpu => p4 ?_⟩
            cases hl : listed.getD p.1 true with
            | false => rfl
            | true => exact absurd (hmono _ hl) (by rw [hpu]; simp), hE.all⟩ (by rw [htake, hA])
            (hw'.imp id (fun h => ⟨fun j hj => hmono j (h.1 j hj), h.2⟩))
        unfold wpOpIn
        simp only [hoi]
        rcases hya with ⟨hwt, hy⟩ | ⟨hwt, hv⟩
        · rw [if_pos hwt]
          by_cases hh : q.2.1 = true
          · rw [if_pos hh] at hy
            rcases hw with ⟨hd0, hC, h⟩ | ⟨h0, _⟩
            · exact wpIn_of_quietF (C := C) hF (hnd _ hom) hC (K := fun a' => a' = a.put q.2.2.1.dst q.2.2.2) (fun a' w' hw' e => by subst e; exact next w' (.inl ⟨hd0, hw', h⟩)) ⟨q.2.2.2, hy, rfl⟩
            · have := h0 q.1 (hq3 hh)
              rw [hun] at this; cases this
          · rw [if_neg hh] at hy
            refine ⟨fun f _ => hF.fn f, ?_⟩
            rw [Oper.semAt_eq _ _ _ (hnd _ hom), hy w]
            exact next w hw
        · rw [if_neg (by rw [hwt]; simp)]
          refine ⟨fun f _ => hF.fn f, ?_⟩
          rw [← hv]
          exact next w hw

/-! ### The walk in the order of the text, and the checks as closed facts -/

/-- Operations that look at no world: moves, and parts of a tuple. -/
def pureOp (o : Oper) : Bool := match o.op with | .move _ => true | .assign _ => true | .extract _ _ => true | _ => false
theorem run_pure {o : Oper} (h : pureOp o = true) {ρ : Operand → Value} {w w2 : World} {v : Value} (hr : (execOp ρ o).run P w = .ok (.value v) w) : (execOp ρ o).run P w2 = .ok (.value v) w2 := by
  unfold pureOp at h
  split at h
  · rename_i x hx
    rw [run_move x hx] at hr ⊢
    simp only [Result.ok.injEq, Next.value.injEq, and_true] at hr ⊢
    exact hr
  · rename_i x hx
    rw [run_assign x hx] at hr ⊢
    simp only [Result.ok.injEq, Next.value.injEq, and_true] at hr ⊢
    exact hr
  · rename_i x k hx
    unfold execOp at hr ⊢
    rw [hx] at hr ⊢
    simp only [Instr.extract] at hr ⊢
    cases hv : ρ x <;> simp only [hv] at hr ⊢ <;> try (simp [go_sem] at hr; done)
    rename_i vs
    cases hk : vs[k]? <;> simp only [hk] at hr ⊢ <;> simp [go_sem] at hr ⊢
    exact hr
  · cases h

theorem pure_noskip {o : Oper} (h : pureOp o = true) {ρ : Operand → Value} {w w' : World} : (execOp ρ o).run P w ≠ .ok .skip w' := by
  intro hr
  unfold pureOp at h
  split at h
  · rename_i x hx; rw [run_move x hx] at hr; cases hr
  · rename_i x hx; rw [run_assign x hx] at hr; cases hr
  · rename_i x k hx
    unfold execOp at hr
    rw [hx] at hr
    simp only [Instr.extract] at hr
    cases hv : ρ x <;> simp only [hv] at hr <;> try (simp [go_sem] at hr; done)
    rename_i vs
    cases hk : vs[k]? <;> simp only [hk] at hr <;> simp [go_sem] at hr
  · cases h
theorem pure_noenter {o : Oper} (h : pureOp o = true) {ρ : Operand → Value} {w w' : World} {f : FuncId} {args : Array Value} : (execOp ρ o).run P w ≠ .ok (.enter f args) w' := by
  intro hr
  unfold pureOp at h
  split at h
  · rename_i x hx; rw [run_move x hx] at hr; cases hr
  · rename_i x hx; rw [run_assign x hx] at hr; cases hr
  · rename_i x k hx
    unfold execOp at hr
    rw [hx] at hr
    simp only [Instr.extract] at hr
    cases hv : ρ x <;> simp only [hv] at hr <;> try (simp [go_sem] at hr; done)
    rename_i vs
    cases hk : vs[k]? <;> simp only [hk] at hr <;> simp [go_sem] at hr
  · cases h

/-- A region's kinds: none: of the chain; some true: of the first kind; some false: of the second. -/
def kindNo : Option Bool → Nat
  | none => 2
  | some true => 0
  | some false => 1
def headOf : List (Option Bool) → List Oper → List Oper
  | none :: ks, _ :: l => headOf ks l
  | some _ :: ks, o :: l => o :: headOf ks l
  | _, _ => []
def tailOf : List (Option Bool) → List Oper → List Oper
  | none :: ks, o :: l => o :: tailOf ks l
  | some _ :: ks, _ :: l => tailOf ks l
  | _, _ => []

def chainIdx (ks : List (Option Bool)) : List Nat := (List.range ks.length).filter fun i => ks[i]? == some none

def looksB (ops : Array Oper) (dst : Option Tmp) (o : Oper) : Bool := match dst with | some d => (o.looksAt ops).contains d | none => false
theorem looksB_spec {dst : Option Tmp} {o : Oper} (h : looksB ops dst o = false) : ∀ d, dst = some d → d ∉ o.looksAt ops := by
  rintro d rfl
  simpa [looksB] using h

def pairB (md : Region.Mode) (ops : Array Oper) (ks : List (Option Bool)) (i j : Nat) (oi oj : Oper) : Bool :=
  match ks[i]? with
  | some none => match ks[j]? with | some none => true | _ => !looksB ops oi.dst oj || Region.waitsFor md ops i j
  | _ => (!looksB ops oi.dst oj || Region.waitsFor md ops j i) && (i == j || oi.dst.isNone || oi.dst != oj.dst)

/-- The region's closed check. -/
def mixB (md : Region.Mode) (ops : Array Oper) (ks : List (Option Bool)) : Bool :=
  Region.noSelect ops && (ks.length == ops.size) &&
  (List.range ops.size).all (fun j => match ops[j]? with
    | some oj => (oj.after.all fun e => !Region.binds md e || decide (e.on < j)) && (ks[j]? != some (some false) || pureOp oj) &&
      (List.range ops.size).all (fun i => match ops[i]? with | some oi => pairB md ops ks i j oi oj | none => true)
    | none => true) &&
  (List.range ops.size).all (fun i => ks[i]? != some (some true) || (match (chainIdx ks).head? with
    | some t => (List.range ops.size).any fun j => decide (i < j) && (ks[j]? == some (some true) || j == t) && Region.waitsFor md ops j i
    | none => true)) &&
  (List.range (chainIdx ks).length).all (fun k => match (chainIdx ks)[k]?, (chainIdx ks)[k + 1]? with | some s, some t => Region.waitsFor md ops t s | _, _ => true)

theorem kind2 {ks : List (Option Bool)} {i : Nat} : (ks.map kindNo)[i]? = some 2 ↔ ks[i]? = some none := by
  rw [List.getElem?_map]
  cases h : ks[i]? with
  | none => simp
  | some k => cases k with
    | none => simp [kindNo]
    | some b => cases b <;> simp [kindNo]
theorem kind0 {ks : List (Option Bool)} {i : Nat} : (ks.map kindNo)[i]? = some 0 ↔ ks[i]? = some (some true) := by
  rw [List.getElem?_map]
  cases h : ks[i]? with
  | none => simp
  | some k => cases k with
    | none => simp [kindNo]
    | some b => cases b <;> simp [kindNo]

theorem mixOk {ks : List (Option Bool)} (h : mixB md ops ks = true) : MixOk md ops (ks.map kindNo) (chainIdx ks) := by
  simp only [mixB, Bool.and_eq_true] at h
  obtain ⟨⟨⟨⟨hsel, hlen⟩, hops⟩, hsink⟩, hchain⟩ := h
  have hlen' : ks.length = ops.size := by simpa using hlen
  have hop : ∀ (j : Nat) (oj : Oper), ops[j]? = some oj → (oj.after.all fun e => !Region.binds md e || decide (e.on < j)) = true ∧ (ks[j]? != some (some false) || pureOp oj) = true ∧ ∀ (i : Nat) (oi : Oper), ops[i]? = some oi → pairB md ops ks i j oi oj = true := fun j oj hj => by
    have hlt : j < ops.size := (Array.getElem?_eq_some_iff.1 hj).1
    have h1 := List.all_eq_true.1 hops j (List.mem_range.2 hlt)
    simp only [hj, Bool.and_eq_true] at h1
    refine ⟨h1.1.1, h1.1.2, fun i oi hi => ?_⟩
    have h2 := List.all_eq_true.1 h1.2 i (List.mem_range.2 (Array.getElem?_eq_some_iff.1 hi).1)
    simpa only [hi] using h2
  have hn2 : ∀ i, (ks.map kindNo)[i]? ≠ some 2 → ks[i]? ≠ some none := fun i h e => h (kind2.2 e)
  refine ⟨Region.noSelect_spec hsel, by simpa using hlen', ?_, ?_, ?_, ?_, ?_, ?_, ?_, ?_⟩
  · intro t
    rw [kind2]
    simp only [chainIdx, List.mem_filter, List.mem_range, beq_iff_eq]
    exact ⟨fun h => h.2, fun h => ⟨(List.getElem?_eq_some_iff.1 h).1, h⟩⟩
  · intro j oj hj e he hb
    have h1 := Array.all_eq_true_iff_forall_mem.1 (hop j oj hj).1 e he
    simpa [hb] using h1
  · intro i j oi oj hi hj hk d hd hin
    have h1 := (hop j oj hj).2.2 i oi hi
    have hk' := hn2 i hk
    unfold pairB at h1
    split at h1
    · rename_i hx; exact absurd hx hk'
    · simp only [Bool.and_eq_true, Bool.or_eq_true, Bool.not_eq_true'] at h1
      rcases h1.1 with h2 | h2
      · exact absurd hin (looksB_spec h2 d hd)
      · exact h2
  · intro i j oi oj hi hj hne hk d hd hjd
    have h1 := (hop j oj hj).2.2 i oi hi
    have hk' := hn2 i hk
    unfold pairB at h1
    split at h1
    · rename_i hx; exact absurd hx hk'
    · simp only [Bool.and_eq_true, Bool.or_eq_true, beq_iff_eq, bne_iff_ne, Option.isNone_iff_eq_none] at h1
      rcases h1.2 with (h2 | h2) | h2
      · exact hne h2
      · rw [hd] at h2; cases h2
      · exact h2 (hd.trans hjd.symm)
  · intro i j oi oj hi hj hk hk2 d hd hin
    have h1 := (hop j oj hj).2.2 i oi hi
    have e1 := kind2.1 hk
    have e2 := hn2 j hk2
    unfold pairB at h1
    simp only [e1] at h1
    have fin : (!looksB ops oi.dst oj || Region.waitsFor md ops i j) = true → Region.waitsFor md ops i j = true := fun h => by
      simp only [Bool.or_eq_true, Bool.not_eq_true'] at h
      rcases h with h | h
      · exact absurd hin (looksB_spec h d hd)
      · exact h
    cases hj2 : ks[j]? with
    | none => exact fin (by simpa [hj2] using h1)
    | some b => cases b with
      | none => exact absurd hj2 e2
      | some c => exact fin (by simpa [hj2] using h1)
  · intro i hk t ht
    have hk' := kind0.1 hk
    have hlt : i < ops.size := by rw [← hlen']; exact (List.getElem?_eq_some_iff.1 hk').1
    have h1 := List.all_eq_true.1 hsink i (List.mem_range.2 hlt)
    simp only [hk', ht, bne_self_eq_false, Bool.false_or] at h1
    obtain ⟨j, _, hj⟩ := List.any_eq_true.1 h1
    simp only [Bool.and_eq_true, decide_eq_true_eq, Bool.or_eq_true, beq_iff_eq] at hj
    exact ⟨j, hj.1.1, hj.1.2.imp (fun h => kind0.2 h) id, hj.2⟩
  · intro k s t hs ht
    have hlt : k < (chainIdx ks).length := (List.getElem?_eq_some_iff.1 hs).1
    have h1 := List.all_eq_true.1 hchain k (List.mem_range.2 hlt)
    simpa only [hs, ht] using h1
  · exact List.Nodup.sublist List.filter_sublist List.nodup_range

theorem mixPure {ks : List (Option Bool)} (h : mixB md ops ks = true) (j : Nat) (oj : Oper) (hj : ops[j]? = some oj) (hk : ks[j]? = some (some false)) : pureOp oj = true := by
  simp only [mixB, Bool.and_eq_true] at h
  have hlt : j < ops.size := (Array.getElem?_eq_some_iff.1 hj).1
  have h1 := List.all_eq_true.1 h.1.1.2 j (List.mem_range.2 hlt)
  simp only [hj, Bool.and_eq_true] at h1
  simpa [hk] using h1.1.2

theorem chainOps_eq : ∀ (ks : List (Option Bool)) (l : List Oper) (k : Nat), ks.length = l.length → (∀ j, l[j]? = ops[k + j]?) → chainOps ops (((List.range ks.length).filter fun i => ks[i]? == some none).map (k + ·)) = tailOf ks l
  | [], l, k, _, _ => by simp [chainOps, tailOf]
  | b :: ks, [], k, h, _ => by simp at h
  | b :: ks, o :: l, k, h, hl => by
    have ih := chainOps_eq ks l (k + 1) (by simpa using h) (fun j => by have := hl (j + 1); simpa [Nat.add_assoc, Nat.add_comm 1 j] using this)
    have h0 : ops[k]? = some o := by simpa using (hl 0).symm
    have hsplit : ((List.range (b :: ks).length).filter fun i => (b :: ks)[i]? == some none).map (k + ·) =
        (if b = none then [k] else []) ++ ((List.range ks.length).filter fun i => ks[i]? == some none).map (k + 1 + ·) := by
      rw [List.length_cons, List.range_succ_eq_map, List.filter_cons]
      have e : (List.map Nat.succ (List.range ks.length)).filter (fun i => (b :: ks)[i]? == some none) = ((List.range ks.length).filter fun i => ks[i]? == some none).map Nat.succ := by
        rw [List.filter_map]; rfl
      cases b with
      | none =>
        simp only [List.getElem?_cons_zero, beq_self_eq_true, if_true, List.map_cons, e, List.map_map, Nat.add_zero, List.singleton_append]
        congr 1
        exact List.map_congr_left fun i _ => by simp only [Function.comp_apply]; omega
      | some c =>
        simp only [List.getElem?_cons_zero, e]
        rw [if_neg (by simp)]
        simp only [reduceCtorEq, if_false, List.nil_append, List.map_map]
        exact List.map_congr_left fun i _ => (by show k + (i + 1) = k + 1 + i; omega)
    rw [hsplit]
    cases b with
    | none =>
      simp only [if_true, List.singleton_append, tailOf]
      rw [← ih]
      simp [chainOps, h0]
    | some c =>
      simp only [tailOf]
      rw [← ih]
      simp

/-- The walk in the order of the text gives the entries. -/
theorem entries_of_walk {ks : List (Option Bool)} (hB : mixB md ops ks = true) {w0 : World} (hC : C w0) {R : Act → Prop} :
    ∀ (kr : List (Option Bool)) (l : List Oper) (k : Nat) (a : Act), kr.length = l.length → (∀ j, l[j]? = ops[k + j]?) → (∀ j, kr[j]? = ks[k + j]?) → wpQuiet P ops C R (headOf kr l) a →
      ∃ (qs : List Ent) (A : Act), R A ∧ fillQ qs (Array.replicate ops.size false) a = A ∧ (qs.map (·.1)).Nodup ∧ (∀ q ∈ qs, k ≤ q.1) ∧
        (∀ q ∈ qs, ops[q.1]? = some q.2.2.1 ∧ (ks.map kindNo)[q.1]? ≠ some 2 ∧ (q.2.1 = true → (ks.map kindNo)[q.1]? = some 0) ∧ YK P ops C q.2.1 q.2.2.1 q.2.2.2 A) ∧
        (∀ i, k ≤ i → i < ops.size → (ks.map kindNo)[i]? ≠ some 2 → ∃ q ∈ qs, q.1 = i)
  | [], l, k, a, hlen, hl, _, h => by
    have : l = [] := List.eq_nil_of_length_eq_zero (by simpa using hlen.symm)
    subst this
    refine ⟨[], a, h, rfl, by simp, by simp, by simp, fun i h1 h2 _ => ?_⟩
    have := hl (i - k)
    rw [show k + (i - k) = i by omega] at this
    simp [h2] at this
  | b :: kr, [], k, a, hlen, _, _, _ => by simp at hlen
  | none :: kr, o :: l, k, a, hlen, hl, hk, h => by
    obtain ⟨qs, A, h1, h2, h3, h4, h5, h6⟩ := entries_of_walk hB hC kr l (k + 1) a (by simpa using hlen) (fun j => by have := hl (j + 1); simpa [Nat.add_assoc, Nat.add_comm 1 j] using this) (fun j => by have := hk (j + 1); simpa [Nat.add_assoc, Nat.add_comm 1 j] using this) h
    have hk0 : ks[k]? = some none := by simpa using (hk 0).symm
    refine ⟨qs, A, h1, h2, h3, fun q hq => by have := h4 q hq; omega, h5, fun i hi hlt hne => h6 i ?_ hlt hne⟩
    rcases Nat.lt_or_ge k i with h' | h'
    · exact h'
    · obtain rfl : i = k := by omega
      exact absurd (kind2.2 hk0) hne
  | some b :: kr, o :: l, k, a, hlen, hl, hk, h => by
    have ok := mixOk hB
    have h0 : ops[k]? = some o := by simpa using (hl 0).symm
    have hk0 : ks[k]? = some (some b) := by simpa using (hk 0).symm
    have hst : qOp P ops C k (wpQuiet P ops C R (headOf kr l)) a := by unfold qOp; simp only [h0]; exact h
    obtain ⟨v, hy, hK⟩ := yieldsIn_of_qOp h0 hst
    obtain ⟨qs, A, h1, h2, h3, h4, h5, h6⟩ := entries_of_walk hB hC kr l (k + 1) _ (by simpa using hlen) (fun j => by have := hl (j + 1); simpa [Nat.add_assoc, Nat.add_comm 1 j] using this) (fun j => by have := hk (j + 1); simpa [Nat.add_assoc, Nat.add_comm 1 j] using this) hK
    have hlt : k < ops.size := (Array.getElem?_eq_some_iff.1 h0).1
    have hun : (Array.replicate ops.size false).getD k true = false := by simp [hlt]
    have hk2 : (ks.map kindNo)[k]? ≠ some 2 := fun e => by rw [kind2, hk0] at e; cases e
    have hfill : fillQ ((k, b, o, v) :: qs) (Array.replicate ops.size false) a = A := by
      simp only [fillQ]; rw [if_pos hun]; exact h2
    have hbase : YK P ops C b o v a := by
      rcases hy with ⟨hw, hv⟩ | ⟨hw, hv⟩
      · refine .inl ⟨hw, ?_⟩
        cases b with
        | true => rw [if_pos rfl]; exact hv
        | false =>
          rw [if_neg (by simp)]
          intro w2
          have h7 := hv w0 hC
          have hp := mixPure hB k o h0 hk0
          unfold Oper.quietAt at h7
          cases hr : (execOp a.eval o).run P w0 with
          | ok x w' =>
            rw [hr] at h7
            cases x with
            | value u =>
              obtain ⟨e1, e2⟩ := h7
              subst e1 e2
              exact run_pure hp hr
            | skip => exact absurd hr (pure_noskip hp)
            | enter f args => exact absurd hr (pure_noenter hp)
            | _ => exact h7.elim
          | halt x w' => rw [hr] at h7; exact h7.elim
      · exact .inr ⟨hw, hv⟩
    have hsame := fillQ_same (ops := ops) ((k, b, o, v) :: qs) (Array.replicate ops.size false) a o (fun cs b' => ok.sel k o cs b' h0) (fun q hq _ d hd hin => by
      have hq' : ops[q.1]? = some q.2.2.1 ∧ (ks.map kindNo)[q.1]? ≠ some 2 ∧ k ≤ q.1 := by
        rcases List.mem_cons.1 hq with rfl | hq
        · exact ⟨h0, hk2, Nat.le_refl _⟩
        · exact ⟨(h5 q hq).1, (h5 q hq).2.1, by have := h4 q hq; omega⟩
      have hw := ok.looks q.1 k q.2.2.1 o hq'.1 h0 hq'.2.1 d hd hin
      obtain ⟨oj, hoj, e, he, hb, hon⟩ := Region.waitsFor_spec hw
      have := ok.edges k oj hoj e he hb
      omega)
    rw [hfill] at hsame
    refine ⟨(k, b, o, v) :: qs, A, h1, hfill, ?_, ?_, ?_, ?_⟩
    · simp only [List.map_cons, List.nodup_cons]
      refine ⟨fun hm => ?_, h3⟩
      obtain ⟨q, hq, e⟩ := List.mem_map.1 hm
      have := h4 q hq
      omega
    · intro q hq
      rcases List.mem_cons.1 hq with rfl | hq
      · exact Nat.le_refl _
      · have := h4 q hq; omega
    · intro q hq
      rcases List.mem_cons.1 hq with rfl | hq
      · exact ⟨h0, hk2, fun hb => by subst hb; exact kind0.2 hk0, hbase.of_same hsame.1 hsame.2⟩
      · exact h5 q hq
    · intro i hi hlt' hne
      rcases Nat.lt_or_ge k i with h' | h'
      · obtain ⟨q, hq, e⟩ := h6 i h' hlt' hne
        exact ⟨q, by simp [hq], e⟩
      · obtain rfl : i = k := by omega
        exact ⟨_, List.mem_cons_self, rfl⟩

/-- ONE WALK SERVES EVERY ORDER. -/
theorem wpIn_region_mix (hF : Free F) (ks : List (Option Bool)) {id : Nat} {Q : Exit → Act → World → Prop} {a : Act} {w : World} {l : List Oper} (hm : P.follows .mixedOrders = true) (hnd : noDefer l = true) (hB : mixB .any l.toArray ks = true)
    (hC : C { w with drawn := w.drawn + 1 })
    (h : wpQuiet P l.toArray C (fun A => ∀ w', C w' → wpList P l.toArray (calmPost Q) (tailOf ks l) A w') (headOf ks l) a) : (Code.region id l.toArray true).wpIn F m P Q a w := by
  have ok := mixOk hB
  have hlen : ks.length = l.length := by have := ok.len; simpa using this
  obtain ⟨qs, A, h1, h2, h3, _, h5, h6⟩ := entries_of_walk hB hC ks l 0 a hlen (fun j => by simp) (fun j => by simp) h
  refine wpIn_region_any hm ?_
  refine mix_main (C := C) hF ok (by simpa using noDefer_spec hnd) l.toArray.size (List.range l.toArray.size) _ a _ [] (chainIdx ks) qs A List.nodup_range (fun i => ?_) (by simp) ⟨by simp, fun j oj _ hl => (by rw [getD_replicate_false] at hl; cases hl)⟩ (by simp) (fun t ht => ?_) (by simp) ⟨h3, fun q hq => ⟨(h5 q hq).1, (h5 q hq).2.1, (h5 q hq).2.2.1, fun _ => (h5 q hq).2.2.2⟩, fun i hi hne => h6 i (Nat.zero_le _) hi hne⟩ h2 (.inl ⟨rfl, hC, fun w' hw' => ?_⟩)
  · rw [List.mem_range]
    constructor
    · intro hi; simp at hi; simp [hi]
    · intro hi
      rcases Nat.lt_or_ge i l.toArray.size with h' | h'
      · exact h'
      · simp at h'; simp [h'] at hi
  · have : t < ks.length := by
      have := List.mem_filter.1 ht
      exact List.mem_range.1 this.1
    rw [hlen] at this
    simp [this]
  · have e := chainOps_eq (ops := l.toArray) ks l 0 hlen (fun j => by simp)
    have e2 : chainIdx ks = ((List.range ks.length).filter fun i => ks[i]? == some none).map (0 + ·) := by simp [chainIdx]
    rw [e2, e]
    exact h1 w' hw'

/-- The same for the plain walk. -/
theorem wp_region_mix (ks : List (Option Bool)) {id : Nat} {Q : Exit → Act → World → Prop} {a : Act} {w : World} {l : List Oper} (hm : P.follows .mixedOrders = true) (hnd : noDefer l = true) (hB : mixB .any l.toArray ks = true)
    (hC : C { w with drawn := w.drawn + 1 })
    (h : wpQuiet P l.toArray C (fun A => ∀ w', C w' → wpList P l.toArray (calmPost Q) (tailOf ks l) A w') (headOf ks l) a) : (Code.region id l.toArray true).wp P Q a w :=
  wpIn_wide.1 (wpIn_region_mix (m := 0) free_wide ks hm hnd hB hC h)
end
end Go.Proofs.YtbbpmcebakckaaaGreatDoor

/- A region that draws its order, by what is known of each operation's value and of the world once it is done: one obligation for each operation, whatever the order. Conditions: the region's own closed checks. -/
namespace Go.Proofs.YtbbpmcebakckaaaGreatDoor
open Go Go.RowKit Go.BigFrame

/-- A function with another value at one number. -/
def upd {α : Type} (f : Nat → α) (i : Nat) (u : α) : Nat → α := fun j => if j = i then u else f j
theorem upd_self {α : Type} (f : Nat → α) (i : Nat) (u : α) : upd f i u i = u := by simp [upd]
theorem upd_ne {α : Type} (f : Nat → α) {i j : Nat} (u : α) (h : j ≠ i) : upd f i u j = f j := by simp [upd, h]

/-- The frame with the values of what has come up. -/
def putsG (f : Nat → Bool) (g : Nat → Value) : Nat → List Oper → Act → Act
  | _, [], a => a
  | k, o :: l, a => putsG f g (k + 1) l (if f k = true then a.put o.dst (g k) else a)

theorem putsG_congr : ∀ (l : List Oper) (k : Nat) (a : Act) (f f' : Nat → Bool) (g g' : Nat → Value), (∀ j, k ≤ j → j < k + l.length → f j = f' j ∧ (f j = true → g j = g' j)) → putsG f g k l a = putsG f' g' k l a
  | [], _, _, _, _, _, _, _ => rfl
  | o :: l, k, a, f, f', g, g', h => by
    simp only [putsG]
    obtain ⟨h1, h2⟩ := h k (Nat.le_refl _) (by simp)
    have e : (if f k = true then a.put o.dst (g k) else a) = (if f' k = true then a.put o.dst (g' k) else a) := by
      rw [← h1]
      split
      · rename_i ht; rw [h2 ht]
      · rfl
    rw [e]
    exact putsG_congr l (k + 1) _ f f' g g' (fun j h3 h4 => h j (by omega) (by simp only [List.length_cons]; omega))

theorem putsG_put : ∀ (l : List Oper) (k : Nat) (a : Act) (d : Option Tmp) (u : Value) (f : Nat → Bool) (g : Nat → Value), (∀ o ∈ l, ∀ e, d = some e → o.dst ≠ some e) → putsG f g k l (a.put d u) = (putsG f g k l a).put d u
  | [], _, _, _, _, _, _, _ => rfl
  | o :: l, k, a, d, u, f, g, h => by
    simp only [putsG]
    have hr := fun b => putsG_put l (k + 1) b d u f g (fun o ho => h o (by simp [ho]))
    split
    · rw [Act.put_comm a u (g k) (h o (by simp)), hr]
    · rw [hr]

theorem putsG_fire : ∀ (l : List Oper) (k : Nat) (a : Act) (i : Nat) (o : Oper) (u : Value) (f : Nat → Bool) (g : Nat → Value), l[i]? = some o → f (k + i) = false →
    (∀ j oj, l[j]? = some oj → j ≠ i → ∀ e, o.dst = some e → oj.dst ≠ some e) → putsG (upd f (k + i) true) (upd g (k + i) u) k l a = (putsG f g k l a).put o.dst u
  | [], _, _, _, _, _, _, _, h, _, _ => by simp at h
  | p :: l, k, a, 0, o, u, f, g, h, hf, hd => by
    have hp : p = o := by simpa using h
    subst hp
    have hf' : f k = false := by simpa using hf
    simp only [putsG, Nat.add_zero, upd_self, if_true, hf', Bool.false_eq_true, if_false]
    rw [putsG_put l (k + 1) a p.dst u _ _ (fun q hq e he => by
      obtain ⟨j, hj⟩ := List.getElem?_of_mem hq
      exact hd (j + 1) q (by simpa using hj) (by omega) e he)]
    rw [putsG_congr l (k + 1) a (upd f k true) f (upd g k u) g (fun j h1 h2 => ⟨upd_ne _ _ (by omega), fun _ => upd_ne _ _ (by omega)⟩)]
  | p :: l, k, a, i + 1, o, u, f, g, h, hf, hd => by
    simp only [putsG]
    rw [upd_ne _ _ (show k ≠ k + (i + 1) by omega), upd_ne _ _ (show k ≠ k + (i + 1) by omega)]
    have e : k + (i + 1) = (k + 1) + i := by omega
    rw [e]
    exact putsG_fire l (k + 1) _ i o u f g (by simpa using h) (by rw [← e]; exact hf) (fun j oj hj hne e he => hd (j + 1) oj (by simpa using hj) (by omega) e he)

theorem putsG_agree : ∀ (l : List Oper) (k : Nat) (a a' : Act) (f f' : Nat → Bool) (g g' : Nat → Value) (t : Tmp), a.tmps.size = a'.tmps.size → a.tmps[t]? = a'.tmps[t]? →
    (∀ j oj, l[j]? = some oj → oj.dst = some t → f (k + j) = f' (k + j) ∧ (f (k + j) = true → g (k + j) = g' (k + j))) → (putsG f g k l a).tmps[t]? = (putsG f' g' k l a').tmps[t]?
  | [], _, _, _, _, _, _, _, _, _, h, _ => h
  | o :: l, k, a, a', f, f', g, g', t, hs, h, hj => by
    simp only [putsG]
    refine putsG_agree l (k + 1) _ _ f f' g g' t ?_ ?_ (fun j oj hl hd => by
      have := hj (j + 1) oj (by simpa using hl) hd
      rwa [show k + (j + 1) = k + 1 + j by omega] at this)
    · have hz : ∀ (b : Act) (u : Value), (b.put o.dst u).tmps.size = b.tmps.size := fun b u => by
        cases o.dst <;> simp [Act.put]
      split <;> split <;> simp only [hz, hs]
    · by_cases hd : o.dst = some t
      · obtain ⟨h1, h2⟩ := hj 0 o rfl hd
        simp only [Nat.add_zero] at h1 h2
        rw [← h1]
        split
        · rename_i hf
          rw [h2 hf]
          simp only [Act.put, hd]
          simp only [Array.getElem?_setIfInBounds_self, hs]
        · exact h
      · have hp : ∀ (b : Act) (v : Value), (b.put o.dst v).tmps[t]? = b.tmps[t]? := fun b v => by
          cases ho : o.dst with
          | none => rfl
          | some d =>
            have hne : d ≠ t := fun e => hd (by rw [ho, e])
            simp [Act.put, Array.getElem?_setIfInBounds_ne hne]
        split <;> split <;> simp only [hp, h]

theorem putsG_defers : ∀ (l : List Oper) (k : Nat) (a : Act) (f : Nat → Bool) (g : Nat → Value), (putsG f g k l a).defers = a.defers
  | [], _, _, _, _ => rfl
  | o :: l, k, a, f, g => by
    simp only [putsG]
    rw [putsG_defers l]
    split
    · exact put_defers _ _ _
    · rfl

/-- The value that an operation has put. -/
def got (o : Oper) (a : Act) : Value :=
  match o.dst with
  | some d => a.tmps.getD d undef
  | none => undef

theorem put_got (o : Oper) (a : Act) (u : Value) : a.put o.dst (got o (a.put o.dst u)) = a.put o.dst u := by
  unfold got
  cases hd : o.dst with
  | none => rfl
  | some d =>
    simp only [Act.put]
    rcases Nat.lt_or_ge d a.tmps.size with h | h
    · simp [h]
    · simp [Array.setIfInBounds_eq_of_size_le h]

theorem got_put_same (o : Oper) (a b : Act) (u : Value) (h : a.tmps.size = b.tmps.size) : got o (a.put o.dst u) = got o (b.put o.dst u) := by
  unfold got
  cases hd : o.dst with
  | none => rfl
  | some d =>
    simp only [Act.put]
    rcases Nat.lt_or_ge d a.tmps.size with h' | h'
    · simp [h', h ▸ h']
    · rw [Array.setIfInBounds_eq_of_size_le h', Array.setIfInBounds_eq_of_size_le (h ▸ h')]
      have h1 : ¬ d < a.tmps.size := Nat.not_lt.2 h'
      have h2 : ¬ d < b.tmps.size := by rw [← h]; exact h1
      simp only [Array.getD, dif_neg h1, dif_neg h2]

theorem putsG_size : ∀ (l : List Oper) (k : Nat) (a : Act) (f : Nat → Bool) (g : Nat → Value), (putsG f g k l a).tmps.size = a.tmps.size
  | [], _, _, _, _ => rfl
  | o :: l, k, a, f, g => by
    simp only [putsG]
    rw [putsG_size l]
    split
    · simp only [Act.put]; cases o.dst <;> simp
    · rfl

section
variable {P : Program} {md : Region.Mode}

/-- The checks of a region: no select; what an operation waits for stands ahead of it; the told ones are waited for; what it looks at is told; no two put the same. -/
structure GhostOk (md : Region.Mode) (l : List Oper) (deps : List (List Nat)) : Prop where
  sel : ∀ (j : Nat) (o : Oper) cs b, l[j]? = some o → o.op ≠ .select cs b
  edges : ∀ (j : Nat) (oj : Oper), l[j]? = some oj → ∀ e ∈ oj.after, Region.binds md e = true → e.on < j
  told : ∀ i, i < l.length → ∀ j ∈ deps.getD i [], j < i ∧ ∃ k, Region.waitsFor md l.toArray i k = true ∧ (j = k ∨ j ∈ deps.getD k [])
  looks : ∀ (i j : Nat) (oi oj : Oper), l[i]? = some oi → l[j]? = some oj → ∀ d, oj.dst = some d → d ∈ oi.looksAt l.toArray → j ∈ deps.getD i []
  dsts : ∀ (i j : Nat) (oi oj : Oper), l[i]? = some oi → l[j]? = some oj → j ≠ i → ∀ d, oi.dst = some d → oj.dst ≠ some d

def ghostOne (md : Region.Mode) (l : List Oper) (deps : List (List Nat)) (i : Nat) (oi : Oper) : Bool :=
  (oi.after.all fun e => !Region.binds md e || decide (e.on < i)) &&
  ((deps.getD i []).all fun j => decide (j < i) && ((List.range l.length).any fun k => Region.waitsFor md l.toArray i k && (j == k || (deps.getD k []).contains j))) &&
  ((List.range l.length).all fun j => match l[j]? with
    | none => true
    | some oj => match oj.dst with
      | none => true
      | some d => (!(oi.looksAt l.toArray).contains d || (deps.getD i []).contains j) && (j == i || oi.dst != some d))

def ghostB (md : Region.Mode) (l : List Oper) (deps : List (List Nat)) : Bool :=
  Region.noSelect l.toArray &&
  ((List.range l.length).all fun i => match l[i]? with
    | none => true
    | some oi => ghostOne md l deps i oi)

theorem ghostOk {md : Region.Mode} {l : List Oper} {deps : List (List Nat)} (h : ghostB md l deps = true) : GhostOk md l deps := by
  unfold ghostB at h
  rw [Bool.and_eq_true] at h
  obtain ⟨h1, h2⟩ := h
  have key : ∀ i oi, l[i]? = some oi → ghostOne md l deps i oi = true := fun i oi hi => by
    have := List.all_eq_true.1 h2 i (List.mem_range.2 (List.getElem?_eq_some_iff.1 hi).1)
    simpa only [hi] using this
  have key1 : ∀ (i : Nat) (oi : Oper), l[i]? = some oi → (oi.after.all fun e => !Region.binds md e || decide (e.on < i)) = true := fun i oi hi => by
    have := key i oi hi
    unfold ghostOne at this
    rw [Bool.and_eq_true, Bool.and_eq_true] at this
    exact this.1.1
  have key2 : ∀ (i : Nat) (oi : Oper), l[i]? = some oi → ((deps.getD i []).all fun j => decide (j < i) && ((List.range l.length).any fun k => Region.waitsFor md l.toArray i k && (j == k || (deps.getD k []).contains j))) = true := fun i oi hi => by
    have := key i oi hi
    unfold ghostOne at this
    rw [Bool.and_eq_true, Bool.and_eq_true] at this
    exact this.1.2
  have key3 : ∀ (i : Nat) (oi : Oper) (j : Nat) (oj : Oper) (d : Tmp), l[i]? = some oi → l[j]? = some oj → oj.dst = some d → ((oi.looksAt l.toArray).contains d = true → (deps.getD i []).contains j = true) ∧ (j ≠ i → oi.dst ≠ some d) := fun i oi j oj d hi hj hd => by
    have := key i oi hi
    unfold ghostOne at this
    rw [Bool.and_eq_true] at this
    have := List.all_eq_true.1 this.2 j (List.mem_range.2 (List.getElem?_eq_some_iff.1 hj).1)
    simp only [hj, hd] at this
    rw [Bool.and_eq_true, Bool.or_eq_true, Bool.or_eq_true, Bool.not_eq_true', beq_iff_eq, bne_iff_ne] at this
    refine ⟨fun h => ?_, fun hne => ?_⟩
    · rcases this.1 with h' | h'
      · rw [h] at h'; cases h'
      · exact h'
    · rcases this.2 with h' | h'
      · exact absurd h' hne
      · exact h'
  refine ⟨fun j o cs b hj => Region.noSelect_spec h1 j o cs b (by simpa using hj), fun j oj hj e he hb => ?_, fun i hi j hj => ?_, fun i j oi oj hi hj d hd hin => ?_, fun i j oi oj hi hj hne d hd hd' => (key3 i oi j oj d hi hj hd').2 hne hd⟩
  · have := Array.all_eq_true_iff_forall_mem.1 (key1 j oj hj) e he
    rw [hb] at this
    simpa using this
  · have := List.all_eq_true.1 (key2 i l[i] (by simp [hi])) j hj
    rw [Bool.and_eq_true, decide_eq_true_eq] at this
    obtain ⟨k, _, hk⟩ := List.any_eq_true.1 this.2
    rw [Bool.and_eq_true, Bool.or_eq_true, beq_iff_eq, List.contains_iff_mem] at hk
    exact ⟨this.1, k, hk.1, hk.2⟩
  · exact List.contains_iff_mem.1 ((key3 i oi j oj d hi hj hd).1 (List.contains_iff_mem.2 hin))

/-- What is asked of one operation's run. -/
def onceC (A : Act) (o : Oper) (R : Value → World → Prop) : Exit → Act → World → Prop := calmPost fun _ a' w' => a'.defers = A.defers ∧ R (got o a') w'

/-- The walk: an obligation for each operation. 'c': the values that are known; 'U': what is known of the others, and of the world. -/
def GW (P : Program) (ops : Array Oper) (c : List (Option Value)) (deps : List (List Nat)) (U : (Nat → Bool) → (Nat → Value) → World → Prop) (Q : Exit → Act → World → Prop) (f : Nat → Bool) (g : Nat → Value) (w : World) : Nat → List Oper → Act → Prop
  | i, [], A => (∀ j, j < i → f j = true) → Q .normal A w
  | i, o :: l, A => match c.getD i none with
    | some v => ((∀ j ∈ deps.getD i [], f j = true) → f i = false → wpList P ops (onceC A o fun u w' => u = v ∧ Below w.heap.size w w') [o] A w) ∧ GW P ops c deps U Q f g w (i + 1) l (A.put o.dst v)
    | none => ((∀ j ∈ deps.getD i [], f j = true) → f i = false → wpList P ops (onceC A o fun u w' => U (upd f i true) (upd g i u) w') [o] A w) ∧ GW P ops c deps U Q f g w (i + 1) l (A.put o.dst (g i))

variable {ops : Array Oper} {c : List (Option Value)} {deps : List (List Nat)} {U : (Nat → Bool) → (Nat → Value) → World → Prop} {Q : Exit → Act → World → Prop} {f : Nat → Bool} {g : Nat → Value} {w : World}

theorem GW.nil {i : Nat} {A : Act} (h : (∀ j, j < i → f j = true) → Q .normal A w) : GW P ops c deps U Q f g w i [] A := h
theorem GW.known {i : Nat} {o : Oper} {l : List Oper} {A : Act} (v : Value) (hc : c.getD i none = some v) (h1 : (∀ j ∈ deps.getD i [], f j = true) → f i = false → wpList P ops (onceC A o fun u w' => u = v ∧ Below w.heap.size w w') [o] A w)
    (h2 : GW P ops c deps U Q f g w (i + 1) l (A.put o.dst v)) : GW P ops c deps U Q f g w i (o :: l) A := by
  unfold GW; rw [hc]; exact ⟨h1, h2⟩
theorem GW.open {i : Nat} {o : Oper} {l : List Oper} {A : Act} (hc : c.getD i none = none) (h1 : (∀ j ∈ deps.getD i [], f j = true) → f i = false → wpList P ops (onceC A o fun u w' => U (upd f i true) (upd g i u) w') [o] A w)
    (h2 : GW P ops c deps U Q f g w (i + 1) l (A.put o.dst (g i))) : GW P ops c deps U Q f g w i (o :: l) A := by
  unfold GW; rw [hc]; exact ⟨h1, h2⟩

/-- What the walk says of the operation at a number: in the frame of what stands ahead. -/
def knownG (c : List (Option Value)) (g : Nat → Value) (j : Nat) : Value := (c.getD j none).getD (g j)

theorem GW.at {a0 : Act} {l : List Oper} (hd : ∀ (i j : Nat) (oi oj : Oper), l[i]? = some oi → l[j]? = some oj → j ≠ i → ∀ d, oi.dst = some d → oj.dst ≠ some d) :
    ∀ (t : List Oper) (k : Nat), (∀ j, t[j]? = l[k + j]?) → k + t.length = l.length → GW P ops c deps U Q f g w k t (putsG (fun j => decide (j < k)) (knownG c g) 0 l a0) →
    (∀ i o, k ≤ i → l[i]? = some o → (∀ j ∈ deps.getD i [], f j = true) → f i = false →
      wpList P ops (onceC (putsG (fun j => decide (j < i)) (knownG c g) 0 l a0) o fun u w' => match c.getD i none with | some v => u = v ∧ Below w.heap.size w w' | none => U (upd f i true) (upd g i u) w') [o] (putsG (fun j => decide (j < i)) (knownG c g) 0 l a0) w) ∧
    ((∀ j, j < l.length → f j = true) → Q .normal (putsG (fun j => decide (j < l.length)) (knownG c g) 0 l a0) w)
  | [], k, hl, hk, h => by
    simp only [List.length_nil, Nat.add_zero] at hk
    subst hk
    refine ⟨fun i o hi ho => ?_, h⟩
    rw [List.getElem?_eq_none hi] at ho
    cases ho
  | o :: t, k, hl, hk, h => by
    have h0 : l[k]? = some o := by simpa using (hl 0).symm
    have step : ∀ u, knownG c g k = u → (putsG (fun j => decide (j < k)) (knownG c g) 0 l a0).put o.dst u = putsG (fun j => decide (j < k + 1)) (knownG c g) 0 l a0 := fun u hu => by
      have := putsG_fire l 0 a0 k o u (fun j => decide (j < k)) (knownG c g) h0 (by simp) (fun j oj hj hne => hd k j o oj h0 hj hne)
      rw [Nat.zero_add] at this
      rw [← this]
      refine putsG_congr l 0 a0 _ _ _ _ (fun j _ _ => ⟨?_, fun _ => ?_⟩)
      · by_cases hj : j = k
        · subst hj; rw [upd_self]; simp
        · rw [upd_ne _ _ hj]; exact decide_eq_decide.2 (by omega)
      · by_cases hj : j = k
        · subst hj; rw [upd_self, hu]
        · rw [upd_ne _ _ hj]
    unfold GW at h
    have hl' : ∀ j, t[j]? = l[k + 1 + j]? := fun j => by
      have := hl (j + 1)
      simpa [Nat.add_assoc, Nat.add_comm 1 j] using this
    have hk' : k + 1 + t.length = l.length := by simp only [List.length_cons] at hk; omega
    cases hc : c.getD k none with
    | some v =>
      rw [hc] at h
      simp only [] at h
      rw [step v (by unfold knownG; rw [hc]; rfl)] at h
      obtain ⟨h1, h2⟩ := h
      obtain ⟨r1, r2⟩ := GW.at hd t (k + 1) hl' hk' h2
      refine ⟨fun i oi hi ho => ?_, r2⟩
      rcases Nat.eq_or_lt_of_le hi with rfl | hlt
      · have : oi = o := Option.some.inj (ho.symm.trans h0)
        subst this
        rw [hc]
        exact h1
      · exact r1 i oi hlt ho
    | none =>
      rw [hc] at h
      simp only [] at h
      rw [step (g k) (by unfold knownG; rw [hc]; rfl)] at h
      obtain ⟨h1, h2⟩ := h
      obtain ⟨r1, r2⟩ := GW.at hd t (k + 1) hl' hk' h2
      refine ⟨fun i oi hi ho => ?_, r2⟩
      rcases Nat.eq_or_lt_of_le hi with rfl | hlt
      · have : oi = o := Option.some.inj (ho.symm.trans h0)
        subst this
        rw [hc]
        exact h1
      · exact r1 i oi hlt ho

theorem wanted_same (o : Oper) (a a' : Act) (h : ∀ t ∈ o.looksAt ops, a.tmps[t]? = a'.tmps[t]?) : Region.wanted o (yielded ops a.tmps) = Region.wanted o (yielded ops a'.tmps) := by
  unfold Region.wanted
  cases hg : o.guard with
  | none => rfl
  | some gw =>
    obtain ⟨q, want⟩ := gw
    have hy : yielded ops a.tmps q = yielded ops a'.tmps q := by
      unfold yielded
      cases ht : (ops[q]?).bind (·.dst) with
      | none => rfl
      | some t =>
        simp only [Option.bind_some]
        rw [h t (by simp [Oper.looksAt, hg, ht])]
    simp only [hy]

theorem exec_same (o : Oper) (hs : ∀ cs b, o.op ≠ .select cs b) (a a' : Act) (h : ∀ t ∈ o.looksAt ops, a.tmps[t]? = a'.tmps[t]?) : execOp a.eval o = execOp a'.eval o :=
  execOp_congr o hs fun x hx => by
    cases x with
    | tmp t =>
      have := h t (List.mem_append_left _ (List.mem_filterMap.2 ⟨.tmp t, by simpa using hx, rfl⟩))
      simp only [Act.eval, Array.getD_eq_getD_getElem?, this]
    | _ => rfl

variable {F : Fence} {m : Nat}

/-- What holds between two operations, whatever has come up. -/
structure Held (md : Region.Mode) (l : List Oper) (c : List (Option Value)) (deps : List (List Nat)) (U : (Nat → Bool) → (Nat → Value) → World → Prop) (a0 : Act) (listed : Array Bool) (g : Nat → Value) (a : Act) (w : World) : Prop where
  closed : Closed md l.toArray listed
  act : a = putsG (fun j => listed.getD j false) g 0 l a0
  vals : ∀ j v, listed.getD j false = true → c.getD j none = some v → g j = v
  down : ∀ k, listed.getD k false = true → ∀ j ∈ deps.getD k [], listed.getD j false = true
  world : U (fun j => listed.getD j false) g w

theorem exists_ready' {l : List Oper} (hedges : ∀ (j : Nat) (oj : Oper), l[j]? = some oj → ∀ e ∈ oj.after, Region.binds md e = true → e.on < j) {listed : Array Bool} (hc : Closed md l.toArray listed) : ∀ i, listed.getD i true = false → ∃ j, j ∈ Region.ready md l.toArray listed := by
  intro i
  induction i using Nat.strongRecOn with
  | _ i ih =>
    intro hi
    by_cases h : ∃ oi, l.toArray[i]? = some oi ∧ ∃ e ∈ oi.after, Region.binds md e = true ∧ listed.getD e.on false = false
    · obtain ⟨oi, hoi, e, he, hb, hf⟩ := h
      have hlt := hedges i oi (by simpa using hoi) e he hb
      have hil : i < listed.size := by
        rw [hc.1]; exact (Array.getElem?_eq_some_iff.1 hoi).1
      exact ih e.on hlt (getD_in (by omega) hf)
    · refine ⟨i, mem_ready.2 ⟨hi, ?_⟩⟩
      have hil : i < l.toArray.size := by
        rw [← hc.1]
        rcases Nat.lt_or_ge i listed.size with h' | h'
        · exact h'
        · simp [Array.getElem?_eq_none h'] at hi
      refine ⟨l.toArray[i], by simp [hil], fun e he hb => ?_⟩
      cases hl : listed.getD e.on false with
      | true => rfl
      | false => exact absurd ⟨l.toArray[i], by simp [hil], e, he, hb, hl⟩ h

theorem ghost_main (hF : Free F) {l : List Oper} {a0 : Act} (ok : GhostOk md l deps) (hnd : ∀ o ∈ l, ∀ q, o.op ≠ .defer q)
    (hg : ∀ f g w w', U f g w → Below w.heap.size w w' → U f g w')
    (hi : ∀ f f' g g' w, (∀ j, c.getD j none = none → f j = f' j ∧ g j = g' j) → U f g w → U f' g' w)
    (hw : ∀ f g w, U f g w → (∀ k, f k = true → ∀ j ∈ deps.getD k [], f j = true) → GW P l.toArray c deps U Q f g w 0 l a0) :
    ∀ (fuel : Nat) (V : List Nat) (listed : Array Bool) (g : Nat → Value) (a : Act) (w : World), V.Nodup → (∀ i, i ∈ V ↔ listed.getD i true = false) → V.length = fuel → Held md l c deps U a0 listed g a w →
      wpAnyIn F m P md l.toArray Q fuel listed a w := by
  intro fuel
  induction fuel with
  | zero =>
    intro V listed g a w hV hVm hVl H
    have hnil : V = [] := List.eq_nil_of_length_eq_zero hVl
    subst hnil
    have hall : ∀ i, listed.getD i true = true := fun i => by
      cases hi : listed.getD i true with
      | true => rfl
      | false => have := (hVm i).2 hi; cases this
    have hallf : ∀ i, i < l.length → listed.getD i false = true := fun i hil => by
      cases hi : listed.getD i false with
      | true => rfl
      | false => have := getD_in (by rw [H.closed.1]; simpa using hil) hi; rw [hall] at this; cases this
    refine ⟨?_, ?_⟩
    · apply List.eq_nil_iff_forall_not_mem.2
      intro j hj
      have := (mem_ready.1 hj).1
      rw [hall] at this; cases this
    · have h0 : putsG (fun j => decide (j < 0)) (knownG c g) 0 l a0 = a0 := by
        rw [putsG_congr l 0 a0 (fun j => decide (j < 0)) (fun _ => false) (knownG c g) g (fun j _ _ => ⟨by simp, fun h => by simp at h⟩)]
        have : ∀ (t : List Oper) k, putsG (fun _ => false) g k t a0 = a0 := by
          intro t
          induction t with
          | nil => intro k; rfl
          | cons o t ih => intro k; simp only [putsG, Bool.false_eq_true, if_false]; exact ih _
        exact this l 0
      have hGW := hw _ _ _ H.world H.down
      rw [← h0] at hGW
      have := (GW.at ok.dsts l 0 (fun j => by simp) (by simp) (by rw [h0] at hGW ⊢; exact hGW)).2 hallf
      rw [H.act]
      rw [putsG_congr l 0 a0 (fun j => listed.getD j false) (fun j => decide (j < l.length)) g (knownG c g) (fun j _ hj => ⟨by rw [hallf j (by omega)]; simp; omega, fun hf => by
        unfold knownG
        cases hc : c.getD j none with
        | none => rfl
        | some v => rw [H.vals j v hf hc]; rfl⟩)]
      exact this
  | succ fuel ih =>
    intro V listed g a w hV hVm hVl H
    refine ⟨fun h0 => ?_, fun i hir => ?_⟩
    · obtain ⟨j, hj⟩ : ∃ j, j ∈ V := by
        cases V with
        | nil => cases hVl
        | cons x r => exact ⟨x, by simp⟩
      obtain ⟨k, hk⟩ := exists_ready' ok.edges H.closed j ((hVm j).1 hj)
      rw [h0] at hk; cases hk
    · obtain ⟨hun, oi, hoi, hall⟩ := mem_ready.1 hir
      have hoi' : l[i]? = some oi := by simpa using hoi
      have hilt : i < l.length := (List.getElem?_eq_some_iff.1 hoi').1
      have hiV : i ∈ V := (hVm i).2 hun
      have hV' : (V.erase i).Nodup := hV.erase i
      have hVm' : ∀ j, j ∈ V.erase i ↔ (listed.setIfInBounds i true).getD j true = false := fun j => by
        by_cases hji : j = i
        · subst hji
          rw [getD_set_true']
          simp [hV.not_mem_erase]
        · rw [List.mem_erase_of_ne hji, hVm j, getD_set_ne true (Ne.symm hji)]
      have hVl' : (V.erase i).length = fuel := by rw [List.length_erase_of_mem hiV, hVl]; rfl
      have hc' := H.closed.set hir
      have hom : oi ∈ l := List.mem_of_getElem? hoi'
      have hfi : listed.getD i false = false := getD_both hun
      have hdown : ∀ j ∈ deps.getD i [], listed.getD j false = true := fun j hj => by
        obtain ⟨_, k, hk, hjk⟩ := ok.told i hilt j hj
        have hlk := ready_waits hir hk
        rcases hjk with rfl | hjk
        · exact hlk
        · exact H.down k hlk j hjk
      have hflag : (fun j => (listed.setIfInBounds i true).getD j false) = upd (fun j => listed.getD j false) i true := by
        funext j
        by_cases hji : j = i
        · subst hji
          rw [upd_self]
          have : j < listed.size := by rw [H.closed.1]; simpa using hilt
          simp [this]
        · rw [upd_ne _ _ hji, getD_set_ne false (Ne.symm hji)]
      -- the frame as the walk has it
      let A := putsG (fun j => decide (j < i)) (knownG c g) 0 l a0
      have hA : A = putsG (fun j => decide (j < i)) (knownG c g) 0 l a0 := rfl
      have h0 : putsG (fun j => decide (j < 0)) (knownG c g) 0 l a0 = a0 := by
        rw [putsG_congr l 0 a0 (fun j => decide (j < 0)) (fun _ => false) (knownG c g) g (fun j _ _ => ⟨by simp, fun h => by simp at h⟩)]
        have : ∀ (t : List Oper) k, putsG (fun _ => false) g k t a0 = a0 := by
          intro t
          induction t with
          | nil => intro k; rfl
          | cons o t ih => intro k; simp only [putsG, Bool.false_eq_true, if_false]; exact ih _
        exact this l 0
      have hGW := hw _ _ _ H.world H.down
      have hW := (GW.at (a0 := a0) ok.dsts l 0 (fun j => by simp) (by simp) (by rw [h0]; exact hGW)).1 i oi (Nat.zero_le _) hoi' hdown hfi
      rw [← hA] at hW
      have hsz : A.tmps.size = a.tmps.size := by rw [hA, H.act, putsG_size, putsG_size]
      have htm : ∀ t ∈ oi.looksAt l.toArray, a.tmps[t]? = A.tmps[t]? := fun t ht => by
        rw [hA, H.act]
        refine putsG_agree l 0 a0 a0 _ _ _ _ t rfl rfl (fun j oj hj hd => ?_)
        have hjd := ok.looks i j oi oj hoi' hj t hd ht
        have hlj := hdown j hjd
        have hji := (ok.told i hilt j hjd).1
        rw [Nat.zero_add]
        refine ⟨by show listed.getD j false = decide (j < i); rw [hlj, decide_eq_true hji], fun _ => ?_⟩
        unfold knownG
        cases hc : c.getD j none with
        | none => rfl
        | some v => rw [H.vals j v hlj hc]; rfl
      have hex : execOp a.eval oi = execOp A.eval oi := exec_same oi (fun cs b => ok.sel i oi cs b hoi') a A htm
      have hwn : Region.wanted oi (yielded l.toArray a.tmps) = Region.wanted oi (yielded l.toArray A.tmps) := wanted_same oi a A htm
      have hadA : A.defers = a.defers := by rw [hA, H.act, putsG_defers, putsG_defers]
      -- what comes behind
      have next : ∀ (ds : List Deferred) (v : Value) (w' : World), onceC A oi (fun u w' => match c.getD i none with | some v => u = v ∧ Below w.heap.size w w' | none => U (upd (fun j => listed.getD j false) i true) (upd g i u) w') .normal ((Act.deferring A ds).put oi.dst v) w' →
          wpAnyIn F m P md l.toArray Q fuel (listed.setIfInBounds i true) ((Act.deferring a ds).put oi.dst v) w' := fun ds v w' hnx => by
        obtain ⟨hds, hR⟩ := hnx
        rw [put_defers] at hds
        have hds' : ds = a.defers := by rw [← hadA]; exact hds
        subst hds'
        have hg' : got oi ((Act.deferring A a.defers).put oi.dst v) = got oi (a.put oi.dst v) := got_put_same oi _ _ v hsz
        rw [hg'] at hR
        rw [deferring_self, ← put_got]
        refine ih (V.erase i) _ (upd g i (got oi (a.put oi.dst v))) _ w' hV' hVm' hVl' ⟨hc', ?_, ?_, ?_, ?_⟩
        · rw [hflag, H.act]
          have := putsG_fire l 0 a0 i oi (got oi (a.put oi.dst v)) (fun j => listed.getD j false) g hoi' (by rw [Nat.zero_add]; exact hfi) (fun j oj hj hne => ok.dsts i j oi oj hoi' hj hne)
          rw [Nat.zero_add] at this
          rw [← H.act]
          rw [this, ← H.act]
        · intro j v' hj hcj
          by_cases hji : j = i
          · subst hji
            rw [upd_self]
            rw [hcj] at hR
            exact hR.1
          · rw [getD_set_ne false (Ne.symm hji)] at hj
            rw [upd_ne _ _ hji]
            exact H.vals j v' hj hcj
        · intro k hk j hj
          by_cases hki : k = i
          · subst hki; exact getD_set_true (hdown j hj)
          · rw [getD_set_ne false (Ne.symm hki)] at hk
            exact getD_set_true (H.down k hk j hj)
        · rw [hflag]
          cases hc : c.getD i none with
          | none => rw [hc] at hR; exact hR
          | some v' =>
            rw [hc] at hR
            refine hi _ _ _ _ _ (fun j hj => ?_) (hg _ _ _ _ H.world hR.2)
            have hji : j ≠ i := fun e => by rw [e, hc] at hj; cases hj
            exact ⟨(upd_ne (fun j => listed.getD j false) true hji).symm, (upd_ne g _ hji).symm⟩
      unfold wpOpIn
      simp only [hoi]
      simp only [wpList] at hW
      rw [← hwn] at hW
      by_cases hwt : Region.wanted oi (yielded l.toArray a.tmps) = true
      · rw [if_pos hwt] at hW
        rw [if_pos hwt]
        refine ⟨fun f _ => hF.fn f, ?_⟩
        rw [Oper.semAt_eq _ _ _ (hnd oi hom)]
        rcases hW with hW | ⟨_, hl⟩
        · unfold Oper.wp at hW
          rw [← hex] at hW
          exact uponIn_frame hF hadA (fun ds v w' h => next ds v w' h) hW
        · exact absurd hl (not_letsOut _)
      · rw [if_neg hwt] at hW
        rw [if_neg hwt]
        refine ⟨fun f _ => hF.fn f, ?_⟩
        have := next A.defers undef w (by rw [deferring_self]; exact hW)
        rw [hadA, deferring_self] at this
        exact this

/-- A region that draws its order, in a free fence. -/
theorem wpIn_region_ghost (hF : Free F) (c : List (Option Value)) (deps : List (List Nat)) (U : (Nat → Bool) → (Nat → Value) → World → Prop) {id : Nat} {a : Act} {w : World} {l : List Oper} (hm : P.follows .mixedOrders = true) (hnd : noDefer l = true) (hB : ghostB .any l deps = true)
    (hg : ∀ f g w w', U f g w → Below w.heap.size w w' → U f g w')
    (hi : ∀ f f' g g' w, (∀ j, c.getD j none = none → f j = f' j ∧ g j = g' j) → U f g w → U f' g' w)
    (h0 : U (fun _ => false) (fun _ => undef) { w with drawn := w.drawn + 1 })
    (hw : ∀ f g w, U f g w → (∀ k, f k = true → ∀ j ∈ deps.getD k [], f j = true) → GW P l.toArray c deps U Q f g w 0 l a) : (Code.region id l.toArray true).wpIn F m P Q a w := by
  have ok := ghostOk hB
  refine wpIn_region_any hm ?_
  have hf0 : (fun j => (Array.replicate l.toArray.size false).getD j false) = fun _ => false := by funext j; exact getD_replicate_false _ _
  refine ghost_main hF ok (noDefer_spec hnd) hg hi hw l.toArray.size (List.range l.toArray.size) _ (fun _ => undef) a _ List.nodup_range (fun i => ?_) (by simp) ⟨⟨by simp, fun j oj _ hl => ?_⟩, ?_, fun j v hj => ?_, fun k hk => ?_, ?_⟩
  · rw [List.mem_range]
    rcases Nat.lt_or_ge i l.toArray.size with h | h
    · exact ⟨fun _ => getD_in (by simpa using h) (getD_replicate_false _ _), fun _ => h⟩
    · refine ⟨fun h' => absurd h' (by omega), fun h' => ?_⟩
      simp only [List.size_toArray] at h
      simp [Array.getD, show ¬ i < l.length by omega] at h'
  · rw [getD_replicate_false] at hl; cases hl
  · rw [hf0]
    have : ∀ (t : List Oper) k, putsG (fun _ => false) (fun _ => undef) k t a = a := by
      intro t
      induction t with
      | nil => intro k; rfl
      | cons o t ih => intro k; simp only [putsG, Bool.false_eq_true, if_false]; exact ih _
    exact (this l 0).symm
  · rw [getD_replicate_false] at hj; cases hj
  · rw [getD_replicate_false] at hk; cases hk
  · rw [hf0]; exact h0

/-- The same for the plain walk. -/
theorem wp_region_ghost (c : List (Option Value)) (deps : List (List Nat)) (U : (Nat → Bool) → (Nat → Value) → World → Prop) {id : Nat} {a : Act} {w : World} {l : List Oper} (hm : P.follows .mixedOrders = true) (hnd : noDefer l = true) (hB : ghostB .any l deps = true)
    (hg : ∀ f g w w', U f g w → Below w.heap.size w w' → U f g w')
    (hi : ∀ f f' g g' w, (∀ j, c.getD j none = none → f j = f' j ∧ g j = g' j) → U f g w → U f' g' w)
    (h0 : U (fun _ => false) (fun _ => undef) { w with drawn := w.drawn + 1 })
    (hw : ∀ f g w, U f g w → (∀ k, f k = true → ∀ j ∈ deps.getD k [], f j = true) → GW P l.toArray c deps U Q f g w 0 l a) : (Code.region id l.toArray true).wp P Q a w :=
  wpIn_wide.1 (wpIn_region_ghost (m := 0) free_wide c deps U hm hnd hB hg hi h0 hw)
end
end Go.Proofs.YtbbpmcebakckaaaGreatDoor

/- A region of quiet operations that draws its order: one walk in the order of the text, by a check of masks that is quick to run. -/
namespace Go.Proofs.YtbbpmcebakckaaaGreatDoor
open Go Go.RowKit

section
variable {P : Program} {md : Region.Mode}

/-- What an operation waits for, at all. -/
inductive Anc (md : Region.Mode) (ops : Array Oper) : Nat → Nat → Prop
  | one {i j : Nat} (h : Region.waitsFor md ops i j = true) : Anc md ops i j
  | step {i k j : Nat} (h : Region.waitsFor md ops i k = true) (t : Anc md ops k j) : Anc md ops i j

theorem anc_listed {ops : Array Oper} {listed : Array Bool} (hc : Closed md ops listed) {i j : Nat} (h : Anc md ops i j) : listed.getD i false = true → listed.getD j false = true := by
  induction h with
  | one h => exact fun hl => closed_waits hc hl h
  | step h _ ih => exact fun hl => ih (closed_waits hc hl h)
theorem anc_ready {ops : Array Oper} {listed : Array Bool} (hc : Closed md ops listed) {i j : Nat} (h : Anc md ops i j) (hr : i ∈ Region.ready md ops listed) : listed.getD j false = true := by
  cases h with
  | one h => exact ready_waits hr h
  | step h t => exact anc_listed hc t (ready_waits hr h)

structure QuickOk (md : Region.Mode) (l : List Oper) : Prop where
  sel : ∀ (j : Nat) (o : Oper) cs b, l[j]? = some o → o.op ≠ .select cs b
  edges : ∀ (j : Nat) (oj : Oper), l[j]? = some oj → ∀ e ∈ oj.after, Region.binds md e = true → e.on < j
  looks : ∀ (i j : Nat) (oi oj : Oper), l[i]? = some oi → l[j]? = some oj → ∀ d, oj.dst = some d → d ∈ oi.looksAt l.toArray → j < i ∧ Anc md l.toArray i j
  dsts : ∀ (i j : Nat) (oi oj : Oper), l[i]? = some oi → l[j]? = some oj → j ≠ i → ∀ d, oi.dst = some d → oj.dst ≠ some d

/-- The bit of the slot that an operation puts to. -/
def dstBit (o : Oper) : Nat := match o.dst with | some d => 2 ^ d | none => 0
/-- All slots that are put to. -/
def allBits : List Oper → Nat
  | [] => 0
  | o :: l => dstBit o ||| allBits l
/-- The slots of what an operation waits for: 'ms' the masks of the operations ahead, the last one first. -/
def upBits (md : Region.Mode) (i : Nat) (ms : List Nat) : List Edge → Nat
  | [] => 0
  | e :: r => (if Region.binds md e then ms.getD (i - 1 - e.on) 0 else 0) ||| upBits md i ms r
def looksOp (ops : Array Oper) (o : Oper) (W m : Nat) : Bool := (o.looksAt ops).all fun t => !W.testBit t || m.testBit t
def quickGo (md : Region.Mode) (ops : Array Oper) (W : Nat) : Nat → List Oper → List Nat → Nat → Bool
  | _, [], _, _ => true
  | i, o :: l, ms, seen =>
    (match o.op with | .select .. => false | _ => true) &&
    (o.after.toList.all fun e => !Region.binds md e || decide (e.on < i)) &&
    (match o.dst with | some d => !seen.testBit d | none => true) &&
    (let m := upBits md i ms o.after.toList
     looksOp ops o W m && quickGo md ops W (i + 1) l ((m ||| dstBit o) :: ms) (seen ||| dstBit o))
def quickB (md : Region.Mode) (l : List Oper) : Bool := quickGo md l.toArray (allBits l) 0 l [] 0

theorem dstBit_spec {o : Oper} {t : Nat} : (dstBit o).testBit t = true ↔ o.dst = some t := by
  unfold dstBit
  cases o.dst with
  | none => simp
  | some d => rw [Nat.testBit_two_pow]; simp
theorem allBits_spec : ∀ (l : List Oper) (t : Nat), (allBits l).testBit t = true ↔ ∃ (j : Nat) (o : Oper), l[j]? = some o ∧ o.dst = some t
  | [], t => by simp [allBits]
  | o :: l, t => by
    rw [allBits, Nat.testBit_or, Bool.or_eq_true, dstBit_spec, allBits_spec l t]
    constructor
    · rintro (h | ⟨j, p, hj, hp⟩)
      · exact ⟨0, o, rfl, h⟩
      · exact ⟨j + 1, p, by simpa using hj, hp⟩
    · rintro ⟨j, p, hj, hp⟩
      cases j with
      | zero => left; have : o = p := by simpa using hj
                rw [this]; exact hp
      | succ j => exact .inr ⟨j, p, by simpa using hj, hp⟩

/-- What a mask of an operation says: each of its slots is put to by the operation, or by one it waits for. -/
def MaskOk (md : Region.Mode) (l : List Oper) (k m : Nat) : Prop := ∀ t, m.testBit t = true → ∃ (j : Nat) (oj : Oper), l[j]? = some oj ∧ oj.dst = some t ∧ j ≤ k ∧ (j = k ∨ Anc md l.toArray k j)

theorem upBits_spec {l : List Oper} {i : Nat} {ms : List Nat} (hms : ∀ k, k < i → MaskOk md l k (ms.getD (i - 1 - k) 0)) : ∀ (es : List Edge), (∀ e ∈ es, Region.binds md e = true → e.on < i) → ∀ t, (upBits md i ms es).testBit t = true →
    ∃ e ∈ es, Region.binds md e = true ∧ ∃ (j : Nat) (oj : Oper), l[j]? = some oj ∧ oj.dst = some t ∧ j ≤ e.on ∧ (j = e.on ∨ Anc md l.toArray e.on j)
  | [], _, t, h => by simp [upBits] at h
  | e :: r, he, t, h => by
    rw [upBits, Nat.testBit_or, Bool.or_eq_true] at h
    rcases h with h | h
    · by_cases hb : Region.binds md e = true
      · rw [if_pos hb] at h
        exact ⟨e, by simp, hb, hms e.on (he e (by simp) hb) t h⟩
      · rw [if_neg hb] at h; simp at h
    · obtain ⟨e', he', rest⟩ := upBits_spec hms r (fun x hx => he x (by simp [hx])) t h
      exact ⟨e', by simp [he'], rest⟩

theorem quickGo_spec {l : List Oper} : ∀ (r : List Oper) (i : Nat) (ms : List Nat) (seen : Nat), (∀ j, r[j]? = l[i + j]?) → (∀ k, k < i → MaskOk md l k (ms.getD (i - 1 - k) 0)) →
    (∀ (j : Nat) (oj : Oper), j < i → l[j]? = some oj → ∀ d, oj.dst = some d → seen.testBit d = true) → quickGo md l.toArray (allBits l) i r ms seen = true →
    ∀ (k : Nat) (o : Oper), i ≤ k → l[k]? = some o → (∀ cs b, o.op ≠ .select cs b) ∧ (∀ e ∈ o.after, Region.binds md e = true → e.on < k) ∧
      (∀ (j : Nat) (oj : Oper), l[j]? = some oj → ∀ d, oj.dst = some d → d ∈ o.looksAt l.toArray → ∃ (j' : Nat) (oj' : Oper), l[j']? = some oj' ∧ oj'.dst = some d ∧ j' < k ∧ Anc md l.toArray k j') ∧
      (∀ (j : Nat) (oj : Oper), j < k → l[j]? = some oj → ∀ d, o.dst = some d → oj.dst ≠ some d)
  | [], i, ms, seen, hr, _, _, _, k, o, hk, ho => by
    have := hr (k - i)
    rw [show i + (k - i) = k by omega, ho] at this
    simp at this
  | p :: r, i, ms, seen, hr, hms, hseen, h, k, o, hk, ho => by
    have h0 : l[i]? = some p := by simpa using (hr 0).symm
    rw [quickGo] at h
    simp only [Bool.and_eq_true] at h
    obtain ⟨⟨⟨h1, h2⟩, h3⟩, h4, h5⟩ := h
    have hes : ∀ e ∈ p.after.toList, Region.binds md e = true → e.on < i := fun e he hb => by
      have := List.all_eq_true.1 h2 e he
      rw [hb] at this
      simpa using this
    have hup := upBits_spec (md := md) (l := l) hms p.after.toList hes
    rcases Nat.eq_or_lt_of_le hk with rfl | hlt
    · have : o = p := Option.some.inj (ho.symm.trans h0)
      subst this
      refine ⟨fun cs b e => ?_, fun e he => hes e (by simpa using he), fun j oj hj d hd hin => ?_, fun j oj hjk hj d hd hd' => ?_⟩
      · rw [e] at h1
        cases h1
      · have := List.all_eq_true.1 h4 d hin
        rw [(allBits_spec l d).2 ⟨j, oj, hj, hd⟩] at this
        obtain ⟨e, he, hb, j', oj', hj', hd', hle, hor⟩ := hup d (by simpa using this)
        have hlt := hes e he hb
        have hw : Region.waitsFor md l.toArray i e.on = true := by
          unfold Region.waitsFor
          simp only [List.getElem?_toArray, h0]
          exact Array.any_eq_true'.2 ⟨e, by simpa using he, by simp [hb]⟩
        refine ⟨j', oj', hj', hd', by omega, ?_⟩
        rcases hor with rfl | ha
        · exact .one hw
        · exact .step hw ha
      · rw [hd] at h3
        simp only [] at h3
        rw [hseen j oj hjk hj d hd'] at h3
        cases h3
    · refine quickGo_spec r (i + 1) _ _ (fun j => ?_) (fun k' hk' => ?_) (fun j oj hj hl d hd => ?_) h5 k o hlt ho
      · have := hr (j + 1)
        rw [show i + (j + 1) = i + 1 + j by omega] at this
        simpa using this
      · rcases Nat.lt_succ_iff_lt_or_eq.1 hk' with h' | rfl
        · rw [show i + 1 - 1 - k' = (i - 1 - k') + 1 by omega, List.getD_cons_succ]
          exact hms k' h'
        · rw [show k' + 1 - 1 - k' = 0 by omega, List.getD_cons_zero]
          intro t ht
          rw [Nat.testBit_or, Bool.or_eq_true] at ht
          rcases ht with ht | ht
          · obtain ⟨e, he, hb, j', oj', hj', hd', hle, hor⟩ := hup t ht
            have hlt := hes e he hb
            have hw : Region.waitsFor md l.toArray k' e.on = true := by
              unfold Region.waitsFor
              simp only [List.getElem?_toArray, h0]
              exact Array.any_eq_true'.2 ⟨e, by simpa using he, by simp [hb]⟩
            refine ⟨j', oj', hj', hd', by omega, .inr ?_⟩
            rcases hor with rfl | ha
            · exact .one hw
            · exact .step hw ha
          · exact ⟨k', p, h0, dstBit_spec.1 ht, Nat.le_refl _, .inl rfl⟩
      · rw [Nat.testBit_or, Bool.or_eq_true]
        rcases Nat.lt_succ_iff_lt_or_eq.1 hj with h' | rfl
        · exact .inl (hseen j oj h' hl d hd)
        · have : oj = p := Option.some.inj (hl.symm.trans h0)
          subst this
          exact .inr (dstBit_spec.2 hd)

theorem quickOk {l : List Oper} (h : quickB md l = true) : QuickOk md l := by
  have S := quickGo_spec (md := md) (l := l) l 0 [] 0 (fun j => by simp) (fun k hk => by omega) (fun j _ hj => by omega) h
  have D : ∀ (i j : Nat) (oi oj : Oper), l[i]? = some oi → l[j]? = some oj → j ≠ i → ∀ d, oi.dst = some d → oj.dst ≠ some d := fun i j oi oj hi hj hne d hd hd' => by
    rcases Nat.lt_or_gt_of_ne hne with hlt | hlt
    · exact (S i oi (Nat.zero_le _) hi).2.2.2 j oj hlt hj d hd hd'
    · exact (S j oj (Nat.zero_le _) hj).2.2.2 i oi hlt hi d hd' hd
  refine ⟨fun j o cs b hj => (S j o (Nat.zero_le _) hj).1 cs b, fun j oj hj => (S j oj (Nat.zero_le _) hj).2.1, fun i j oi oj hi hj d hd hin => ?_, D⟩
  obtain ⟨j', oj', hj', hd', hlt, ha⟩ := (S i oi (Nat.zero_le _) hi).2.2.1 j oj hj d hd hin
  by_cases e : j = j'
  · subst e; exact ⟨hlt, ha⟩
  · exact absurd hd (D j' j oj' oj hj' hj e d hd')

variable {C : World → Prop} {F : Fence} {m : Nat}

/-- The values that a walk tells. -/
theorem vals_of_walk {l : List Oper} {a0 : Act} {R : Act → Prop} (hd : ∀ (i j : Nat) (oi oj : Oper), l[i]? = some oi → l[j]? = some oj → j ≠ i → ∀ d, oi.dst = some d → oj.dst ≠ some d) :
    ∀ (t : List Oper) (k : Nat) (vs : Nat → Value), (∀ j, t[j]? = l[k + j]?) → k + t.length = l.length → wpQuiet P l.toArray C R t (putsG (fun j => decide (j < k)) vs 0 l a0) →
    ∃ vs' : Nat → Value, (∀ j, j < k → vs' j = vs j) ∧ (∀ (i : Nat) (o : Oper), k ≤ i → l[i]? = some o → YieldsIn P l.toArray C o (vs' i) (putsG (fun j => decide (j < i)) vs' 0 l a0)) ∧ R (putsG (fun j => decide (j < l.length)) vs' 0 l a0)
  | [], k, vs, hl, hk, h => by
    simp only [List.length_nil, Nat.add_zero] at hk
    subst hk
    refine ⟨vs, fun _ _ => rfl, fun i o hi ho => ?_, h⟩
    rw [List.getElem?_eq_none hi] at ho
    cases ho
  | o :: t, k, vs, hl, hk, h => by
    have h0 : l[k]? = some o := by simpa using (hl 0).symm
    have hq : qOp P l.toArray C k (wpQuiet P l.toArray C R t) (putsG (fun j => decide (j < k)) vs 0 l a0) := by
      unfold qOp
      simp only [List.getElem?_toArray, h0]
      exact h
    obtain ⟨v, hy, hK⟩ := yieldsIn_of_qOp (by simpa using h0) hq
    have hfire := putsG_fire l 0 a0 k o v (fun j => decide (j < k)) vs h0 (by simp) (fun j oj hj hne => hd k j o oj h0 hj hne)
    rw [Nat.zero_add] at hfire
    have hput : putsG (upd (fun j => decide (j < k)) k true) (upd vs k v) 0 l a0 = putsG (fun j => decide (j < k + 1)) (upd vs k v) 0 l a0 := by
      refine putsG_congr l 0 a0 _ _ _ _ (fun j _ _ => ⟨?_, fun _ => rfl⟩)
      by_cases hj : j = k
      · subst hj; rw [upd_self]; simp
      · rw [upd_ne _ _ hj]; exact decide_eq_decide.2 (by omega)
    rw [← hfire, hput] at hK
    obtain ⟨vs', h1, h2, h3⟩ := vals_of_walk hd t (k + 1) (upd vs k v) (fun j => by have := hl (j + 1); simpa [Nat.add_assoc, Nat.add_comm 1 j] using this) (by simp only [List.length_cons] at hk; omega) hK
    refine ⟨vs', fun j hj => by rw [h1 j (by omega), upd_ne _ _ (by omega)], fun i oi hi ho => ?_, h3⟩
    rcases Nat.eq_or_lt_of_le hi with rfl | hlt
    · have : oi = o := Option.some.inj (ho.symm.trans h0)
      subst this
      rw [h1 k (by omega), upd_self]
      rw [putsG_congr l 0 a0 (fun j => decide (j < k)) (fun j => decide (j < k)) vs' vs (fun j _ _ => ⟨rfl, fun hj => by
        have hj' : j < k := by simpa using hj
        rw [h1 j (by omega), upd_ne _ _ (by omega)]⟩)]
      exact hy
    · exact h2 i oi hlt ho

theorem quick_main (hF : Free F) {l : List Oper} {a0 : Act} {vs : Nat → Value} {Q : Exit → Act → World → Prop} (ok : QuickOk md l) (hnd : ∀ o ∈ l, ∀ q, o.op ≠ .defer q)
    (hy : ∀ (i : Nat) (o : Oper), l[i]? = some o → YieldsIn P l.toArray C o (vs i) (putsG (fun j => decide (j < i)) vs 0 l a0)) (hQ : ∀ w, C w → Q .normal (putsG (fun j => decide (j < l.length)) vs 0 l a0) w) :
    ∀ (fuel : Nat) (V : List Nat) (listed : Array Bool) (w : World), V.Nodup → (∀ i, i ∈ V ↔ listed.getD i true = false) → V.length = fuel → Closed md l.toArray listed → C w →
      wpAnyIn F m P md l.toArray Q fuel listed (putsG (fun j => listed.getD j false) vs 0 l a0) w := by
  intro fuel
  induction fuel with
  | zero =>
    intro V listed w hV hVm hVl hc hC
    have hnil : V = [] := List.eq_nil_of_length_eq_zero hVl
    subst hnil
    have hall : ∀ i, listed.getD i true = true := fun i => by
      cases hi : listed.getD i true with
      | true => rfl
      | false => have := (hVm i).2 hi; cases this
    refine ⟨?_, ?_⟩
    · apply List.eq_nil_iff_forall_not_mem.2
      intro j hj
      have := (mem_ready.1 hj).1
      rw [hall] at this; cases this
    · rw [putsG_congr l 0 a0 (fun j => listed.getD j false) (fun j => decide (j < l.length)) vs vs (fun j _ hj => ⟨?_, fun _ => rfl⟩)]
      · exact hQ w hC
      · cases hi : listed.getD j false with
        | true => simp; omega
        | false => have := getD_in (by rw [hc.1]; simpa using (show j < l.length by omega)) hi; rw [hall] at this; cases this
  | succ fuel ih =>
    intro V listed w hV hVm hVl hc hC
    refine ⟨fun h0 => ?_, fun i hir => ?_⟩
    · obtain ⟨j, hj⟩ : ∃ j, j ∈ V := by
        cases V with
        | nil => cases hVl
        | cons x r => exact ⟨x, by simp⟩
      obtain ⟨k, hk⟩ := exists_ready' ok.edges hc j ((hVm j).1 hj)
      rw [h0] at hk; cases hk
    · obtain ⟨hun, oi, hoi, hall⟩ := mem_ready.1 hir
      have hoi' : l[i]? = some oi := by simpa using hoi
      have hilt : i < l.length := (List.getElem?_eq_some_iff.1 hoi').1
      have hiV : i ∈ V := (hVm i).2 hun
      have hV' : (V.erase i).Nodup := hV.erase i
      have hVm' : ∀ j, j ∈ V.erase i ↔ (listed.setIfInBounds i true).getD j true = false := fun j => by
        by_cases hji : j = i
        · subst hji
          rw [getD_set_true']
          simp [hV.not_mem_erase]
        · rw [List.mem_erase_of_ne hji, hVm j, getD_set_ne true (Ne.symm hji)]
      have hVl' : (V.erase i).length = fuel := by rw [List.length_erase_of_mem hiV, hVl]; rfl
      have hc' := hc.set hir
      have hom : oi ∈ l := List.mem_of_getElem? hoi'
      have hfi : listed.getD i false = false := getD_both hun
      have hflag : (fun j => (listed.setIfInBounds i true).getD j false) = upd (fun j => listed.getD j false) i true := by
        funext j
        by_cases hji : j = i
        · subst hji
          rw [upd_self]
          have : j < listed.size := by rw [hc.1]; simpa using hilt
          simp [this]
        · rw [upd_ne _ _ hji, getD_set_ne false (Ne.symm hji)]
      have htm : ∀ t ∈ oi.looksAt l.toArray, (putsG (fun j => listed.getD j false) vs 0 l a0).tmps[t]? = (putsG (fun j => decide (j < i)) vs 0 l a0).tmps[t]? := fun t ht => by
        refine putsG_agree l 0 a0 a0 _ _ _ _ t rfl rfl (fun j oj hj hd => ?_)
        obtain ⟨hlt, ha⟩ := ok.looks i j oi oj hoi' hj t hd ht
        rw [Nat.zero_add]
        exact ⟨by show listed.getD j false = decide (j < i); rw [anc_ready hc ha hir, decide_eq_true hlt], fun _ => rfl⟩
      have hya := (hy i oi hoi').of_same (exec_same oi (fun cs b => ok.sel i oi cs b hoi') _ _ htm) (wanted_same oi _ _ htm)
      have hfire := putsG_fire l 0 a0 i oi (vs i) (fun j => listed.getD j false) vs hoi' (by rw [Nat.zero_add]; exact hfi) (fun j oj hj hne => ok.dsts i j oi oj hoi' hj hne)
      rw [Nat.zero_add] at hfire
      have hself : upd vs i (vs i) = vs := by
        funext j
        by_cases hji : j = i
        · subst hji; rw [upd_self]
        · rw [upd_ne _ _ hji]
      rw [hself, ← hflag] at hfire
      refine wpOpIn_of_qOpF (C := C) hF (by simpa using hnd) hC (K := fun a' => a' = putsG (fun j => (listed.setIfInBounds i true).getD j false) vs 0 l a0) (fun a' w' hw' e => by subst e; exact ih _ _ w' hV' hVm' hVl' hc' hw') ?_
      exact hya.qOp hoi hfire.symm

/-- A region of quiet operations. -/
theorem wpIn_region_quick (hF : Free F) {id : Nat} {Q : Exit → Act → World → Prop} {a : Act} {w : World} {l : List Oper} (hm : P.follows .mixedOrders = true) (hnd : noDefer l = true) (hB : quickB .any l = true)
    (hC : C { w with drawn := w.drawn + 1 }) (h : wpQuiet P l.toArray C (fun a' => ∀ w', C w' → Q .normal a' w') l a) : (Code.region id l.toArray true).wpIn F m P Q a w := by
  have ok := quickOk hB
  have h00 : ∀ (vs : Nat → Value) (t : List Oper) k, putsG (fun _ => false) vs k t a = a := by
    intro vs t
    induction t with
    | nil => intro k; rfl
    | cons o t ih => intro k; simp only [putsG, Bool.false_eq_true, if_false]; exact ih _
  have e0 : ∀ vs : Nat → Value, putsG (fun j => decide (j < 0)) vs 0 l a = a := fun vs => by
    rw [putsG_congr l 0 a (fun j => decide (j < 0)) (fun _ => false) vs vs (fun j _ _ => ⟨by simp, fun _ => rfl⟩)]
    exact h00 vs l 0
  obtain ⟨vs, _, hy, hQ⟩ := vals_of_walk (C := C) (a0 := a) ok.dsts l 0 (fun _ => undef) (fun j => by simp) (by simp) (by rw [e0]; exact h)
  refine wpIn_region_any hm ?_
  have hf0 : (fun j => (Array.replicate l.toArray.size false).getD j false) = fun _ => false := by funext j; exact getD_replicate_false _ _
  have := quick_main (m := m) (C := C) (Q := Q) hF ok (noDefer_spec hnd) (fun i o ho => hy i o (Nat.zero_le _) ho) hQ l.toArray.size (List.range l.toArray.size) (Array.replicate l.toArray.size false) { w with drawn := w.drawn + 1 } List.nodup_range (fun i => ?_) (by simp) ⟨by simp, fun j oj _ hl => ?_⟩ hC
  · rw [hf0, h00] at this
    exact this
  · rw [List.mem_range]
    rcases Nat.lt_or_ge i l.toArray.size with h | h
    · exact ⟨fun _ => getD_in (by simpa using h) (getD_replicate_false _ _), fun _ => h⟩
    · refine ⟨fun h' => absurd h' (by omega), fun h' => ?_⟩
      simp only [List.size_toArray] at h
      simp [Array.getD, show ¬ i < l.length by omega] at h'
  · rw [getD_replicate_false] at hl; cases hl

/-- The same for the plain walk. -/
theorem wp_region_quick {id : Nat} {Q : Exit → Act → World → Prop} {a : Act} {w : World} {l : List Oper} (hm : P.follows .mixedOrders = true) (hnd : noDefer l = true) (hB : quickB .any l = true)
    (hC : C { w with drawn := w.drawn + 1 }) (h : wpQuiet P l.toArray C (fun a' => ∀ w', C w' → Q .normal a' w') l a) : (Code.region id l.toArray true).wp P Q a w :=
  wpIn_wide.1 (wpIn_region_quick (m := 0) free_wide hm hnd hB hC h)
end
end Go.Proofs.YtbbpmcebakckaaaGreatDoor
