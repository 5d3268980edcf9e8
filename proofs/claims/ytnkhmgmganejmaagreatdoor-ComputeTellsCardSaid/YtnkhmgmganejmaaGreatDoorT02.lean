/- Part. -/
import Derived.Test.YtnkhmgmganejmaaGreatDoorT01
set_option maxRecDepth 100000
set_option maxHeartbeats 16000000
namespace Go.Proofs.YtnkhmgmganejmaaGreatDoor
section
open Go Go.RowKit Go.BigFrame
section
variable {P : Program} {ops : Array Oper} {md : Region.Mode} {C : World → Prop}
def YK (P : Program) (ops : Array Oper) (C : World → Prop) (head : Bool) (o : Oper) (v : Value) (a : Act) : Prop :=
 (Region.wanted o (yielded ops a.tmps) = true ∧ (if head = true then ∀ w, C w → o.quietAt P a C w v else ∀ w, (execOp a.eval o).run P w = .ok (.value v) w)) ∨
 (Region.wanted o (yielded ops a.tmps) = false ∧ v = undef)
theorem YK.of_same {head : Bool} {o : Oper} {v : Value} {a a' : Act} (hy : YK P ops C head o v a) (he : execOp a'.eval o = execOp a.eval o)
  (hw : Region.wanted o (yielded ops a'.tmps) = Region.wanted o (yielded ops a.tmps)) : YK P ops C head o v a' := by
 unfold YK Oper.quietAt at *
 rw [he, hw]
 exact hy
abbrev Ent := Nat × Bool × Oper × Value
def fillQ : List Ent → Array Bool → Act → Act
 | [], _, a => a
 | q :: r, listed, a => fillQ r listed (if listed.getD q.1 true = false then a.put q.2.2.1.dst q.2.2.2 else a)
theorem getD_set_true' {listed : Array Bool} {i : Nat} : (listed.setIfInBounds i true).getD i true = true := by
 rcases Nat.lt_or_ge i listed.size with h | h
 ·simp [h]
 ·simp
theorem fillQ_skip : ∀ (qs : List Ent) (listed : Array Bool) (a : Act) (i : Nat), (∀ q ∈ qs, q.1 ≠ i) → fillQ qs (listed.setIfInBounds i true) a = fillQ qs listed a
 | [], _, _, _, _ => rfl
 | q :: r, listed, a, i, h => by
  have h0 : q.1 ≠ i := h q (by simp)
  simp only [fillQ]
  rw [getD_set_ne true (Ne.symm h0), fillQ_skip r listed _ i (fun q hq => h q (by simp [hq]))]
theorem fillQ_put : ∀ (qs : List Ent) (listed : Array Bool) (a : Act) (d : Option Tmp) (u : Value), (∀ q ∈ qs, ∀ e, d = some e → q.2.2.1.dst ≠ some e) →
  fillQ qs listed (a.put d u) = (fillQ qs listed a).put d u
 | [], _, _, _, _, _ => rfl
 | q :: r, listed, a, d, u, h => by
  simp only [fillQ]
  have hr : ∀ q ∈ r, ∀ e, d = some e → q.2.2.1.dst ≠ some e := fun q hq => h q (by simp [hq])
  split
  ·rw [Act.put_comm a u q.2.2.2 (h q (by simp)), fillQ_put r listed _ d u hr]
  ·exact fillQ_put r listed _ d u hr
theorem fillQ_done : ∀ (qs : List Ent) (listed : Array Bool) (a : Act), (∀ q ∈ qs, listed.getD q.1 true = true) → fillQ qs listed a = a
 | [], _, _, _ => rfl
 | q :: r, listed, a, h => by
  simp only [fillQ]
  rw [if_neg (by rw [h q (by simp)]; simp), fillQ_done r listed a (fun q hq => h q (by simp [hq]))]
theorem fillQ_take : ∀ (qs : List Ent) (listed : Array Bool) (a : Act) (q : Ent), q ∈ qs → (qs.map (·.1)).Nodup → listed.getD q.1 true = false →
  (∀ p ∈ qs, p.1 ≠ q.1 → ∀ e, q.2.2.1.dst = some e → p.2.2.1.dst ≠ some e) → fillQ qs (listed.setIfInBounds q.1 true) (a.put q.2.2.1.dst q.2.2.2) = fillQ qs listed a
 | [], _, _, _, h, _, _, _ => by cases h
 | p :: r, listed, a, q, h, hn, hu, hd => by
  simp only [List.map_cons, List.nodup_cons] at hn
  simp only [fillQ]
  rcases List.mem_cons.1 h with rfl | hm
  ·rw [getD_set_true', if_neg (by simp), if_pos hu]
   exact fillQ_skip r listed _ _ (fun p hp e => hn.1 (by rw [← e]; exact List.mem_map.2 ⟨p, hp, rfl⟩))
  ·have hne : p.1 ≠ q.1 := fun e => hn.1 (by rw [e]; exact List.mem_map.2 ⟨q, hm, rfl⟩)
   rw [getD_set_ne true (Ne.symm hne)]
   split
   ·rw [← Act.put_comm (a) p.2.2.2 q.2.2.2 (fun e he hq => hd p (by simp) hne e hq he)]
    exact fillQ_take r listed _ q hm hn.2 hu (fun p hp => hd p (by simp [hp]))
   ·exact fillQ_take r listed _ q hm hn.2 hu (fun p hp => hd p (by simp [hp]))
theorem fillQ_same : ∀ (qs : List Ent) (listed : Array Bool) (a : Act) (o : Oper), (∀ cs b, o.op ≠ .select cs b) → (∀ q ∈ qs, listed.getD q.1 true = false → ∀ d, q.2.2.1.dst = some d → d ∉ o.looksAt ops) →
  execOp (fillQ qs listed a).eval o = execOp a.eval o ∧ Region.wanted o (yielded ops (fillQ qs listed a).tmps) = Region.wanted o (yielded ops a.tmps)
 | [], _, _, _, _, _ => ⟨rfl, rfl⟩
 | q :: r, listed, a, o, hs, h => by
  simp only [fillQ]
  have hr := fun b => fillQ_same r listed b o hs (fun q hq => h q (by simp [hq]))
  split
  ·rename_i hu
   have h1 := h q (by simp) hu
   exact ⟨(hr _).1.trans (execOp_put o hs a _ _ h1), (hr _).2.trans (wanted_put o a _ _ h1)⟩
  ·exact hr a
structure MixOk (md : Region.Mode) (ops : Array Oper) (ks : List Nat) (ts : List Nat) : Prop where
 sel : ∀ (j : Nat) (o : Oper) cs b, ops[j]? = some o → o.op ≠ .select cs b
 len : ks.length = ops.size
 kinds : ∀ t, t ∈ ts ↔ ks[t]? = some 2
 edges : ∀ (j : Nat) (oj : Oper), ops[j]? = some oj → ∀ e ∈ oj.after, Region.binds md e = true → e.on < j
 looks : ∀ (i j : Nat) (oi oj : Oper), ops[i]? = some oi → ops[j]? = some oj → ks[i]? ≠ some 2 → ∀ d, oi.dst = some d → d ∈ oj.looksAt ops → Region.waitsFor md ops j i = true
 dsts : ∀ (i j : Nat) (oi oj : Oper), ops[i]? = some oi → ops[j]? = some oj → i ≠ j → ks[i]? ≠ some 2 → ∀ d, oi.dst = some d → oj.dst ≠ some d
 tails : ∀ (i j : Nat) (oi oj : Oper), ops[i]? = some oi → ops[j]? = some oj → ks[i]? = some 2 → ks[j]? ≠ some 2 → ∀ d, oi.dst = some d → d ∈ oj.looksAt ops → Region.waitsFor md ops i j = true
 sink : ∀ i, ks[i]? = some 0 → ∀ t, ts.head? = some t → ∃ j, i < j ∧ (ks[j]? = some 0 ∨ j = t) ∧ Region.waitsFor md ops j i = true
 chain : ∀ k s t, ts[k]? = some s → ts[k + 1]? = some t → Region.waitsFor md ops t s = true
 ups : ts.Nodup
def Closed (md : Region.Mode) (ops : Array Oper) (listed : Array Bool) : Prop :=
 listed.size = ops.size ∧ ∀ j oj, ops[j]? = some oj → listed.getD j false = true → ∀ e ∈ oj.after, Region.binds md e = true → listed.getD e.on false = true
theorem Closed.set {listed : Array Bool} {i : Nat} (h : Closed md ops listed) (hi : i ∈ Region.ready md ops listed) : Closed md ops (listed.setIfInBounds i true) := by
 obtain ⟨_, oi, hoi, hall⟩ := mem_ready.1 hi
 refine ⟨by simp [h.1], fun j oj hj hl e he hb => ?_⟩
 by_cases hij : i = j
 ·subst hij
  have : oj = oi := Option.some.inj (hj.symm.trans hoi)
  subst this
  exact getD_set_true (hall e he hb)
 ·rw [getD_set_ne false hij] at hl
  exact getD_set_true (h.2 j oj hj hl e he hb)
theorem ready_waits {listed : Array Bool} {i j : Nat} (hj : j ∈ Region.ready md ops listed) (h : Region.waitsFor md ops j i = true) : listed.getD i false = true := by
 obtain ⟨oj, hoj, e, he, hb, hon⟩ := Region.waitsFor_spec h
 obtain ⟨_, o, ho, hall⟩ := mem_ready.1 hj
 have : oj = o := Option.some.inj (hoj.symm.trans ho)
 subst this
 rw [← hon]; exact hall e he hb
theorem closed_waits {listed : Array Bool} (hc : Closed md ops listed) {i j : Nat} (hj : listed.getD j false = true) (h : Region.waitsFor md ops j i = true) : listed.getD i false = true := by
 obtain ⟨oj, hoj, e, he, hb, hon⟩ := Region.waitsFor_spec h
 rw [← hon]; exact hc.2 j oj hoj hj e he hb
theorem getD_true_of_false {listed : Array Bool} {i : Nat} (h : listed.getD i false = true) : listed.getD i true = true := by
 rcases Nat.lt_or_ge i listed.size with h' | h'
 ·simp [h'] at h ⊢; exact h
 ·simp [Array.getElem?_eq_none h'] at h
theorem head_done {ks ts : List Nat} {listed : Array Bool} (ok : MixOk md ops ks ts) (hc : Closed md ops listed) {t : Nat} (ht : ts.head? = some t) (hr : t ∈ Region.ready md ops listed) :
  ∀ (n i : Nat), ops.size - i ≤ n → ks[i]? = some 0 → listed.getD i false = true := by
 intro n
 induction n with
 | zero =>
  intro i hn hi
  have : i < ks.length := (List.getElem?_eq_some_iff.1 hi).1
  rw [ok.len] at this
  omega
 | succ n ih =>
  intro i hn hi
  obtain ⟨j, hij, hj, hw⟩ := ok.sink i hi t ht
  rcases hj with hj | rfl
  ·exact closed_waits hc (ih j (by omega) hj) hw
  ·exact ready_waits hr hw
theorem exists_ready {ks ts : List Nat} {listed : Array Bool} (ok : MixOk md ops ks ts) (hc : Closed md ops listed) : ∀ i, listed.getD i true = false → ∃ j, j ∈ Region.ready md ops listed := by
 intro i
 induction i using Nat.strongRecOn with
 | _ i ih =>
  intro hi
  by_cases h : ∃ oi, ops[i]? = some oi ∧ ∃ e ∈ oi.after, Region.binds md e = true ∧ listed.getD e.on false = false
  ·obtain ⟨oi, hoi, e, he, hb, hf⟩ := h
   have hlt := ok.edges i oi hoi e he hb
   have hil : i < listed.size := by
    rw [hc.1]; exact (Array.getElem?_eq_some_iff.1 hoi).1
   exact ih e.on hlt (getD_in (by omega) hf)
  ·refine ⟨i, mem_ready.2 ⟨hi, ?_⟩⟩
   have hil : i < ops.size := by
    rw [← hc.1]
    rcases Nat.lt_or_ge i listed.size with h' | h'
    ·exact h'
    ·simp [Array.getElem?_eq_none h'] at hi
   refine ⟨ops[i], by simp [hil], fun e he hb => ?_⟩
   cases hl : listed.getD e.on false with
   | true => rfl
   | false => exact absurd ⟨ops[i], by simp [hil], e, he, hb, hl⟩ h
structure Entries (P : Program) (md : Region.Mode) (ops : Array Oper) (C : World → Prop) (ks : List Nat) (qs : List Ent) (listed : Array Bool) (A : Act) : Prop where
 nodup : (qs.map (·.1)).Nodup
 at_ : ∀ q ∈ qs, ops[q.1]? = some q.2.2.1 ∧ ks[q.1]? ≠ some 2 ∧ (q.2.1 = true → ks[q.1]? = some 0) ∧ (listed.getD q.1 true = false → YK P ops C q.2.1 q.2.2.1 q.2.2.2 A)
 all : ∀ i, i < ops.size → ks[i]? ≠ some 2 → ∃ q ∈ qs, q.1 = i
def chainOps (ops : Array Oper) (tl : List Nat) : List Oper := tl.filterMap (ops[·]?)
def calmPost (Q : Exit → Act → World → Prop) : Exit → Act → World → Prop
 | .normal, a, w => Q .normal a w
 | _, _, _ => False
theorem calmPost_normal (Q : Exit → Act → World → Prop) (a : Act) (w : World) : calmPost Q .normal a w = Q .normal a w := rfl
theorem not_letsOut (Q : Exit → Act → World → Prop) : ¬ LetsOut (calmPost Q) := fun ⟨_, _, h⟩ => h
theorem rowsIn_free {F : Fence} (hF : Free F) {m : Nat} {row : String} {args : Array Value} {w : World} {R : Value → World → Prop} (h : Rows P row args w R) : RowsIn F m P row args w R := by
 have k : RowsIn Fence.wide m P row args w R := fun c cs _ => let ⟨v, w', r, s⟩ := h c cs; ⟨v, w', r, stepsIn_wide.2 s⟩
 rcases hF with rfl | ⟨l, rfl⟩
 ·exact k
 ·exact k
variable {F : Fence} {m : Nat}
def Act.deferring (a : Act) (ds : List Deferred) : Act := { a with defers := ds }
theorem deferring_put (a : Act) (d : Option Tmp) (v : Value) (ds : List Deferred) : Act.deferring (a.put d v) ds = (Act.deferring a ds).put d v := by cases d <;> rfl
theorem deferring_self (a : Act) : Act.deferring a a.defers = a := rfl
theorem put_defers (a : Act) (d : Option Tmp) (v : Value) : (a.put d v).defers = a.defers := by cases d <;> rfl
theorem fillQ_deferring : ∀ (qs : List Ent) (listed : Array Bool) (a : Act) (ds : List Deferred), fillQ qs listed (Act.deferring a ds) = Act.deferring (fillQ qs listed a) ds
 | [], _, _, _ => rfl
 | q :: r, listed, a, ds => by
  simp only [fillQ]
  split
  ·rw [← deferring_put, fillQ_deferring r]
  ·rw [fillQ_deferring r]
theorem fillQ_defers : ∀ (qs : List Ent) (listed : Array Bool) (a : Act), (fillQ qs listed a).defers = a.defers
 | [], _, _ => rfl
 | q :: r, listed, a => by
  simp only [fillQ]
  split
  ·rw [fillQ_defers r, put_defers]
  ·rw [fillQ_defers r]
theorem uponIn_frame (hF : Free F) {o : Oper} {a a' : Act} {K K' : Act → World → Prop} {Q Q' : Exit → Act → World → Prop} (hd : a.defers = a'.defers)
  (hK : ∀ ds v w, K ((Act.deferring a ds).put o.dst v) w → K' ((Act.deferring a' ds).put o.dst v) w)
  {r : Result Next} (h : o.upon P a K (calmPost Q) r) : o.uponIn F m P a' K' Q' r := by
 have hK0 : ∀ v w, K (a.put o.dst v) w → K' (a'.put o.dst v) w := fun v w h => by
  have := hK a.defers v w (by rw [deferring_self]; exact h)
  rw [hd, deferring_self] at this
  exact this
 cases r with
 | ok x w' =>
  cases x with
  | value v => exact hK0 _ _ h
  | skip => exact hK0 _ _ h
  | defer d => exact hK (d :: a'.defers) _ _ (by rw [← hd]; exact h)
  | enter f args =>
   refine ⟨fun hd => absurd hd (by rw [hF.depth]; simp), callsIn_free hF (Calls.mono h fun e w'' he => ?_)⟩
   cases e with
   | returned v => exact hK0 _ _ he
   | panicked c => exact he.elim
   | outgrown => exact (not_letsOut Q he).elim
  | row row args => exact ⟨fun hd => absurd hd (by rw [hF.depth]; simp), rowsIn_free hF (Rows.mono h fun _ _ he => hK0 _ _ he)⟩
  | _ => exact h.elim
 | halt x w' =>
  cases x <;> exact h.elim
theorem mix_main (hF : Free F) {ks ts : List Nat} (ok : MixOk md ops ks ts) (hnd : ∀ o ∈ ops.toList, ∀ c, o.op ≠ .defer c) {Q : Exit → Act → World → Prop} :
  ∀ (fuel : Nat) (U : List Nat) (listed : Array Bool) (a : Act) (w : World) (done tl : List Nat) (qs : List Ent) (A : Act),
   U.Nodup → (∀ i, i ∈ U ↔ listed.getD i true = false) → U.length = fuel → Closed md ops listed → ts = done ++ tl → (∀ t ∈ tl, listed.getD t true = false) → (∀ t ∈ done, listed.getD t true = true) →
   Entries P md ops C ks qs listed A → fillQ qs listed a = A →
   ((done = [] ∧ C w ∧ ∀ w', C w' → wpList P ops (calmPost Q) (chainOps ops tl) A w') ∨ ((∀ i, ks[i]? = some 0 → listed.getD i true = true) ∧ wpList P ops (calmPost Q) (chainOps ops tl) A w)) →
   wpAnyIn F m P md ops Q fuel listed a w := by
 intro fuel
 induction fuel with
 | zero =>
  intro U listed a w done tl qs A hU hUm hUl hc hts htl hdn hE hA hw
  have hnil : U = [] := List.eq_nil_of_length_eq_zero hUl
  subst hnil
  have hall : ∀ i, listed.getD i true = true := fun i => by
   cases hi : listed.getD i true with
   | true => rfl
   | false => have := (hUm i).2 hi; cases this
  have htn : tl = [] := by
   cases tl with
   | nil => rfl
   | cons t r => have := htl t (by simp); rw [hall] at this; cases this
  subst htn
  rw [fillQ_done qs listed a (fun q _ => hall q.1)] at hA
  subst hA
  refine ⟨?_, ?_⟩
  ·apply List.eq_nil_iff_forall_not_mem.2
   intro j hj
   have := (mem_ready.1 hj).1
   rw [hall] at this; cases this
  ·rcases hw with ⟨_, hC, h⟩ | ⟨_, h⟩
   ·exact h w hC
   ·exact h
 | succ fuel ih =>
  intro U listed a w done tl qs A hU hUm hUl hc hts htl hdn hE hA hw
  refine ⟨fun h0 => ?_, fun i hi => ?_⟩
  ·obtain ⟨j, hj⟩ : ∃ j, j ∈ U := by
    cases U with
    | nil => cases hUl
    | cons x r => exact ⟨x, by simp⟩
   obtain ⟨k, hk⟩ := exists_ready ok hc j ((hUm j).1 hj)
   rw [h0] at hk; cases hk
  ·obtain ⟨hun, oi, hoi, hall⟩ := mem_ready.1 hi
   have hilt : i < ops.size := (Array.getElem?_eq_some_iff.1 hoi).1
   have hiU : i ∈ U := (hUm i).2 hun
   have hU' : (U.erase i).Nodup := hU.erase i
   have hUm' : ∀ j, j ∈ U.erase i ↔ (listed.setIfInBounds i true).getD j true = false := fun j => by
    by_cases hji : j = i
    ·subst hji
     rw [getD_set_true']
     simp [hU.not_mem_erase]
    ·rw [List.mem_erase_of_ne hji, hUm j, getD_set_ne true (Ne.symm hji)]
   have hUl' : (U.erase i).length = fuel := by rw [List.length_erase_of_mem hiU, hUl]; rfl
   have hc' := hc.set hi
   have hom : oi ∈ ops.toList := by
    obtain ⟨hlt, he⟩ := Array.getElem?_eq_some_iff.1 hoi
    rw [← he]; exact Array.getElem_mem_toList hlt
   have hsame := fillQ_same (ops := ops) qs listed a oi (fun cs b => ok.sel i oi cs b hoi) (fun q hq hqu d hd hin => by
    obtain ⟨hq1, hq2, _, _⟩ := hE.at_ q hq
    have hwait := ok.looks q.1 i q.2.2.1 oi hq1 hoi hq2 d hd hin
    have := getD_true_of_false (ready_waits hi hwait)
    rw [hqu] at this; cases this)
   rw [hA] at hsame
   by_cases hk : ks[i]? = some 2
   ·-- the chain's next
    have hit : i ∈ ts := (ok.kinds i).2 hk
    have hitl : i ∈ tl := by
     rw [hts] at hit
     rcases List.mem_append.1 hit with h | h
     ·have := hdn i h; rw [hun] at this; cases this
     ·exact h
    obtain ⟨tl', rfl⟩ : ∃ tl', tl = i :: tl' := by
     obtain ⟨k, hk1⟩ := List.getElem?_of_mem hitl
     cases k with
     | zero =>
      cases tl with
      | nil => cases hitl
      | cons x r => simp at hk1; exact ⟨r, by rw [hk1]⟩
     | succ k =>
      have hklt : k < tl.length := by have := (List.getElem?_eq_some_iff.1 hk1).1; omega
      have h1 : ts[done.length + k]? = some tl[k] := by rw [hts, List.getElem?_append_right (by omega)]; simp [hklt]
      have h2 : ts[done.length + k + 1]? = some i := by rw [hts, List.getElem?_append_right (by omega)]; rw [show done.length + k + 1 - done.length = k + 1 by omega]; exact hk1
      have := ready_waits hi (ok.chain _ _ _ h1 h2)
      have h3 := htl tl[k] (List.getElem_mem hklt)
      rw [getD_true_of_false this] at h3; cases h3
    have hW : wpList P ops (calmPost Q) (chainOps ops (i :: tl')) A w ∧ (∀ j, ks[j]? = some 0 → (listed.setIfInBounds i true).getD j true = true) := by
     rcases hw with ⟨hdn0, hC, h⟩ | ⟨h0, h⟩
     ·refine ⟨h w hC, fun j hj => ?_⟩
      have := head_done ok hc (t := i) (by rw [hts, hdn0]; rfl) hi (ops.size - j) j (Nat.le_refl _) hj
      exact getD_true_of_false (getD_set_true this)
     ·refine ⟨h, fun j hj => ?_⟩
      by_cases hji : j = i
      ·subst hji; exact getD_set_true'
      ·rw [getD_set_ne true (Ne.symm hji)]; exact h0 j hj
    obtain ⟨hW, hheads⟩ := hW
    have hch : chainOps ops (i :: tl') = oi :: chainOps ops tl' := by simp [chainOps, hoi]
    rw [hch] at hW
    have hput : ∀ (b : Act) (v : Value), fillQ qs (listed.setIfInBounds i true) (b.put oi.dst v) = (fillQ qs listed b).put oi.dst v := fun b v => by
     rw [fillQ_put qs _ b oi.dst v (fun q hq e he hqe => by
      obtain ⟨hq1, hq2, _, _⟩ := hE.at_ q hq
      have hne : q.1 ≠ i := fun e' => by rw [e'] at hq2; exact hq2 hk
      exact ok.dsts q.1 i q.2.2.1 oi hq1 hoi hne hq2 e hqe he)]
     rw [fillQ_skip qs listed b i (fun q hq e' => by obtain ⟨_, hq2, _, _⟩ := hE.at_ q hq; rw [e'] at hq2; exact hq2 hk)]
    have hE' : ∀ (ds : List Deferred) (v : Value), Entries P md ops C ks qs (listed.setIfInBounds i true) ((Act.deferring A ds).put oi.dst v) := fun ds v => ⟨hE.nodup, fun q hq => by
     obtain ⟨hq1, hq2, hq3, hq4⟩ := hE.at_ q hq
     refine ⟨hq1, hq2, hq3, fun hqu => ?_⟩
     have hne : q.1 ≠ i := fun e => by rw [e] at hq2; exact hq2 hk
     rw [getD_set_ne true (Ne.symm hne)] at hqu
     have hl : ∀ d, oi.dst = some d → d ∉ q.2.2.1.looksAt ops := fun d hd hin => by
      have := getD_true_of_false (ready_waits hi (ok.tails i q.1 oi q.2.2.1 hoi hq1 hk hq2 d hd hin))
      rw [hqu] at this; cases this
     have e1 : execOp ((Act.deferring A ds).put oi.dst v).eval q.2.2.1 = execOp A.eval q.2.2.1 := by rw [execOp_put _ (fun cs b => ok.sel _ _ cs b hq1) _ _ _ hl]; rfl
     have e2 : Region.wanted q.2.2.1 (yielded ops ((Act.deferring A ds).put oi.dst v).tmps) = Region.wanted q.2.2.1 (yielded ops A.tmps) := by rw [wanted_put _ _ _ _ hl]; rfl
     exact (hq4 hqu).of_same e1 e2, hE.all⟩
    have next : ∀ (ds : List Deferred) (v : Value) (w' : World), wpList P ops (calmPost Q) (chainOps ops tl') ((Act.deferring A ds).put oi.dst v) w' →
      wpAnyIn F m P md ops Q fuel (listed.setIfInBounds i true) ((Act.deferring a ds).put oi.dst v) w' := fun ds v w' hnx =>
     ih (U.erase i) _ _ w' (done ++ [i]) tl' qs _ hU' hUm' hUl' hc' (by simp [hts]) (fun t ht => by
       have hne : t ≠ i := fun e => by
        have hn := ok.ups
        rw [hts] at hn
        have := (List.nodup_append.1 hn).2.1
        simp only [List.nodup_cons] at this
        exact this.1 (e ▸ ht)
       rw [getD_set_ne true (Ne.symm hne)]; exact htl t (by simp [ht]))
      (fun t ht => by
       rcases List.mem_append.1 ht with h | h
       ·by_cases hti : t = i
        ·subst hti; exact getD_set_true'
        ·rw [getD_set_ne true (Ne.symm hti)]; exact hdn t h
       ·simp at h; subst h; exact getD_set_true')
      (hE' ds v) (by rw [hput, fillQ_deferring, hA]) (.inr ⟨hheads, hnx⟩)
    unfold wpOpIn
    simp only [hoi]
    simp only [wpList] at hW
    rw [hsame.2] at hW
    have hadA : A.defers = a.defers := by rw [← hA, fillQ_defers]
    by_cases hwt : Region.wanted oi (yielded ops a.tmps) = true
    ·rw [if_pos hwt] at hW
     rw [if_pos hwt]
     refine ⟨fun f _ => hF.fn f, ?_⟩
     rw [Oper.semAt_eq _ _ _ (hnd oi hom)]
     rcases hW with hW | ⟨_, hl⟩
     ·unfold Oper.wp at hW
      rw [hsame.1] at hW
      exact uponIn_frame hF hadA (fun ds v w' h => next ds v w' h) hW
     ·exact absurd hl (not_letsOut Q)
    ·rw [if_neg hwt] at hW
     rw [if_neg hwt]
     refine ⟨fun f _ => hF.fn f, ?_⟩
     have := next A.defers undef w (by rw [deferring_self]; exact hW)
     rw [hadA, deferring_self] at this
     exact this
   ·-- an entry
    obtain ⟨q, hq, rfl⟩ := hE.all i hilt hk
    obtain ⟨hq1, hq2, hq3, hq4⟩ := hE.at_ q hq
    have : oi = q.2.2.1 := Option.some.inj (hoi.symm.trans hq1)
    subst this
    have hya : YK P ops C q.2.1 q.2.2.1 q.2.2.2 a := (hq4 hun).of_same hsame.1.symm hsame.2.symm
    have htake := fillQ_take qs listed a q hq hE.nodup hun (fun p hp hpne e he hpe => by
     obtain ⟨hp1, _, _, _⟩ := hE.at_ p hp
     exact ok.dsts q.1 p.1 q.2.2.1 p.2.2.1 hq1 hp1 (Ne.symm hpne) hq2 e he hpe)
    have hmono : ∀ j, listed.getD j true = true → (listed.setIfInBounds q.1 true).getD j true = true := fun j hj => by
     by_cases hji : j = q.1
     ·subst hji; exact getD_set_true'
     ·rw [getD_set_ne true (Ne.symm hji)]; exact hj
    have htl' : ∀ t ∈ tl, (listed.setIfInBounds q.1 true).getD t true = false := fun t ht => by
     have hne : q.1 ≠ t := fun e => hk (by rw [e]; exact (ok.kinds t).1 (by rw [hts]; simp [ht]))
     rw [getD_set_ne true hne]; exact htl t ht
    have next : ∀ w', ((done = [] ∧ C w' ∧ ∀ w'', C w'' → wpList P ops (calmPost Q) (chainOps ops tl) A w'') ∨ ((∀ j, ks[j]? = some 0 → listed.getD j true = true) ∧ wpList P ops (calmPost Q) (chainOps ops tl) A w')) →
      wpAnyIn F m P md ops Q fuel (listed.setIfInBounds q.1 true) (a.put q.2.2.1.dst q.2.2.2) w' := fun w' hw' =>
     ih (U.erase q.1) _ _ w' done tl qs A hU' hUm' hUl' hc' hts htl' (fun t ht => hmono t (hdn t ht)) ⟨hE.nodup, fun p hp => by
      obtain ⟨p1, p2, p3, p4⟩ := hE.at_ p hp
      refine ⟨p1, p2, p3, fun hpu => p4 ?_⟩
      cases hl : listed.getD p.1 true with
      | false => rfl
      | true => exact absurd (hmono _ hl) (by rw [hpu]; simp), hE.all⟩ (by rw [htake, hA])
      (hw'.imp id (fun h => ⟨fun j hj => hmono j (h.1 j hj), h.2⟩))
    unfold wpOpIn
    simp only [hoi]
    rcases hya with ⟨hwt, hy⟩ | ⟨hwt, hv⟩
    ·rw [if_pos hwt]
     by_cases hh : q.2.1 = true
     ·rw [if_pos hh] at hy
      rcases hw with ⟨hd0, hC, h⟩ | ⟨h0, _⟩
      ·exact wpIn_of_quietF (C := C) hF (hnd _ hom) hC (K := fun a' => a' = a.put q.2.2.1.dst q.2.2.2) (fun a' w' hw' e => by subst e; exact next w' (.inl ⟨hd0, hw', h⟩)) ⟨q.2.2.2, hy, rfl⟩
      ·have := h0 q.1 (hq3 hh)
       rw [hun] at this; cases this
     ·rw [if_neg hh] at hy
      refine ⟨fun f _ => hF.fn f, ?_⟩
      rw [Oper.semAt_eq _ _ _ (hnd _ hom), hy w]
      exact next w hw
    ·rw [if_neg (by rw [hwt]; simp)]
     refine ⟨fun f _ => hF.fn f, ?_⟩
     rw [← hv]
     exact next w hw
def pureOp (o : Oper) : Bool := match o.op with | .move _ => true | .assign _ => true | .extract _ _ => true | _ => false
theorem run_pure {o : Oper} (h : pureOp o = true) {ρ : Operand → Value} {w w2 : World} {v : Value} (hr : (execOp ρ o).run P w = .ok (.value v) w) : (execOp ρ o).run P w2 = .ok (.value v) w2 := by
 unfold pureOp at h
 split at h
 ·rename_i x hx
  rw [run_move x hx] at hr ⊢
  simp only [Result.ok.injEq, Next.value.injEq, and_true] at hr ⊢
  exact hr
 ·rename_i x hx
  rw [run_assign x hx] at hr ⊢
  simp only [Result.ok.injEq, Next.value.injEq, and_true] at hr ⊢
  exact hr
 ·rename_i x k hx
  unfold execOp at hr ⊢
  rw [hx] at hr ⊢
  simp only [Instr.extract] at hr ⊢
  cases hv : ρ x <;> simp only [hv] at hr ⊢ <;> try (simp [go_sem] at hr; done)
  rename_i vs
  cases hk : vs[k]? <;> simp only [hk] at hr ⊢ <;> simp [go_sem] at hr ⊢
  exact hr
 ·cases h
theorem pure_noskip {o : Oper} (h : pureOp o = true) {ρ : Operand → Value} {w w' : World} : (execOp ρ o).run P w ≠ .ok .skip w' := by
 intro hr
 unfold pureOp at h
 split at h
 ·rename_i x hx; rw [run_move x hx] at hr; cases hr
 ·rename_i x hx; rw [run_assign x hx] at hr; cases hr
 ·rename_i x k hx
  unfold execOp at hr
  rw [hx] at hr
  simp only [Instr.extract] at hr
  cases hv : ρ x <;> simp only [hv] at hr <;> try (simp [go_sem] at hr; done)
  rename_i vs
  cases hk : vs[k]? <;> simp only [hk] at hr <;> simp [go_sem] at hr
 ·cases h
theorem pure_noenter {o : Oper} (h : pureOp o = true) {ρ : Operand → Value} {w w' : World} {f : FuncId} {args : Array Value} : (execOp ρ o).run P w ≠ .ok (.enter f args) w' := by
 intro hr
 unfold pureOp at h
 split at h
 ·rename_i x hx; rw [run_move x hx] at hr; cases hr
 ·rename_i x hx; rw [run_assign x hx] at hr; cases hr
 ·rename_i x k hx
  unfold execOp at hr
  rw [hx] at hr
  simp only [Instr.extract] at hr
  cases hv : ρ x <;> simp only [hv] at hr <;> try (simp [go_sem] at hr; done)
  rename_i vs
  cases hk : vs[k]? <;> simp only [hk] at hr <;> simp [go_sem] at hr
 ·cases h
def kindNo : Option Bool → Nat
 | none => 2
 | some true => 0
 | some false => 1
def headOf : List (Option Bool) → List Oper → List Oper
 | none :: ks, _ :: l => headOf ks l
 | some _ :: ks, o :: l => o :: headOf ks l
 | _, _ => []
def tailOf : List (Option Bool) → List Oper → List Oper
 | none :: ks, o :: l => o :: tailOf ks l
 | some _ :: ks, _ :: l => tailOf ks l
 | _, _ => []
def chainIdx (ks : List (Option Bool)) : List Nat := (List.range ks.length).filter fun i => ks[i]? == some none
def looksB (ops : Array Oper) (dst : Option Tmp) (o : Oper) : Bool := match dst with | some d => (o.looksAt ops).contains d | none => false
theorem looksB_spec {dst : Option Tmp} {o : Oper} (h : looksB ops dst o = false) : ∀ d, dst = some d → d ∉ o.looksAt ops := by
 rintro d rfl
 simpa [looksB] using h
def pairB (md : Region.Mode) (ops : Array Oper) (ks : List (Option Bool)) (i j : Nat) (oi oj : Oper) : Bool :=
 match ks[i]? with
 | some none => match ks[j]? with | some none => true | _ => !looksB ops oi.dst oj || Region.waitsFor md ops i j
 | _ => (!looksB ops oi.dst oj || Region.waitsFor md ops j i) && (i == j || oi.dst.isNone || oi.dst != oj.dst)
def mixB (md : Region.Mode) (ops : Array Oper) (ks : List (Option Bool)) : Bool :=
 Region.noSelect ops && (ks.length == ops.size) &&
 (List.range ops.size).all (fun j => match ops[j]? with
  | some oj => (oj.after.all fun e => !Region.binds md e || decide (e.on < j)) && (ks[j]? != some (some false) || pureOp oj) &&
   (List.range ops.size).all (fun i => match ops[i]? with | some oi => pairB md ops ks i j oi oj | none => true)
  | none => true) &&
 (List.range ops.size).all (fun i => ks[i]? != some (some true) || (match (chainIdx ks).head? with
  | some t => (List.range ops.size).any fun j => decide (i < j) && (ks[j]? == some (some true) || j == t) && Region.waitsFor md ops j i
  | none => true)) &&
 (List.range (chainIdx ks).length).all (fun k => match (chainIdx ks)[k]?, (chainIdx ks)[k + 1]? with | some s, some t => Region.waitsFor md ops t s | _, _ => true)
theorem kind2 {ks : List (Option Bool)} {i : Nat} : (ks.map kindNo)[i]? = some 2 ↔ ks[i]? = some none := by
 rw [List.getElem?_map]
 cases h : ks[i]? with
 | none => simp
 | some k => cases k with
  | none => simp [kindNo]
  | some b => cases b <;> simp [kindNo]
theorem kind0 {ks : List (Option Bool)} {i : Nat} : (ks.map kindNo)[i]? = some 0 ↔ ks[i]? = some (some true) := by
 rw [List.getElem?_map]
 cases h : ks[i]? with
 | none => simp
 | some k => cases k with
  | none => simp [kindNo]
  | some b => cases b <;> simp [kindNo]
theorem mixOk {ks : List (Option Bool)} (h : mixB md ops ks = true) : MixOk md ops (ks.map kindNo) (chainIdx ks) := by
 simp only [mixB, Bool.and_eq_true] at h
 obtain ⟨⟨⟨⟨hsel, hlen⟩, hops⟩, hsink⟩, hchain⟩ := h
 have hlen' : ks.length = ops.size := by simpa using hlen
 have hop : ∀ (j : Nat) (oj : Oper), ops[j]? = some oj → (oj.after.all fun e => !Region.binds md e || decide (e.on < j)) = true ∧ (ks[j]? != some (some false) || pureOp oj) = true ∧ ∀ (i : Nat) (oi : Oper), ops[i]? = some oi → pairB md ops ks i j oi oj = true := fun j oj hj => by
  have hlt : j < ops.size := (Array.getElem?_eq_some_iff.1 hj).1
  have h1 := List.all_eq_true.1 hops j (List.mem_range.2 hlt)
  simp only [hj, Bool.and_eq_true] at h1
  refine ⟨h1.1.1, h1.1.2, fun i oi hi => ?_⟩
  have h2 := List.all_eq_true.1 h1.2 i (List.mem_range.2 (Array.getElem?_eq_some_iff.1 hi).1)
  simpa only [hi] using h2
 have hn2 : ∀ i, (ks.map kindNo)[i]? ≠ some 2 → ks[i]? ≠ some none := fun i h e => h (kind2.2 e)
 refine ⟨Region.noSelect_spec hsel, by simpa using hlen', ?_, ?_, ?_, ?_, ?_, ?_, ?_, ?_⟩
 ·intro t
  rw [kind2]
  simp only [chainIdx, List.mem_filter, List.mem_range, beq_iff_eq]
  exact ⟨fun h => h.2, fun h => ⟨(List.getElem?_eq_some_iff.1 h).1, h⟩⟩
 ·intro j oj hj e he hb
  have h1 := Array.all_eq_true_iff_forall_mem.1 (hop j oj hj).1 e he
  simpa [hb] using h1
 ·intro i j oi oj hi hj hk d hd hin
  have h1 := (hop j oj hj).2.2 i oi hi
  have hk' := hn2 i hk
  unfold pairB at h1
  split at h1
  ·rename_i hx; exact absurd hx hk'
  ·simp only [Bool.and_eq_true, Bool.or_eq_true, Bool.not_eq_true'] at h1
   rcases h1.1 with h2 | h2
   ·exact absurd hin (looksB_spec h2 d hd)
   ·exact h2
 ·intro i j oi oj hi hj hne hk d hd hjd
  have h1 := (hop j oj hj).2.2 i oi hi
  have hk' := hn2 i hk
  unfold pairB at h1
  split at h1
  ·rename_i hx; exact absurd hx hk'
  ·simp only [Bool.and_eq_true, Bool.or_eq_true, beq_iff_eq, bne_iff_ne, Option.isNone_iff_eq_none] at h1
   rcases h1.2 with (h2 | h2) | h2
   ·exact hne h2
   ·rw [hd] at h2; cases h2
   ·exact h2 (hd.trans hjd.symm)
 ·intro i j oi oj hi hj hk hk2 d hd hin
  have h1 := (hop j oj hj).2.2 i oi hi
  have e1 := kind2.1 hk
  have e2 := hn2 j hk2
  unfold pairB at h1
  simp only [e1] at h1
  have fin : (!looksB ops oi.dst oj || Region.waitsFor md ops i j) = true → Region.waitsFor md ops i j = true := fun h => by
   simp only [Bool.or_eq_true, Bool.not_eq_true'] at h
   rcases h with h | h
   ·exact absurd hin (looksB_spec h d hd)
   ·exact h
  cases hj2 : ks[j]? with
  | none => exact fin (by simpa [hj2] using h1)
  | some b => cases b with
   | none => exact absurd hj2 e2
   | some c => exact fin (by simpa [hj2] using h1)
 ·intro i hk t ht
  have hk' := kind0.1 hk
  have hlt : i < ops.size := by rw [← hlen']; exact (List.getElem?_eq_some_iff.1 hk').1
  have h1 := List.all_eq_true.1 hsink i (List.mem_range.2 hlt)
  simp only [hk', ht, bne_self_eq_false, Bool.false_or] at h1
  obtain ⟨j, _, hj⟩ := List.any_eq_true.1 h1
  simp only [Bool.and_eq_true, decide_eq_true_eq, Bool.or_eq_true, beq_iff_eq] at hj
  exact ⟨j, hj.1.1, hj.1.2.imp (fun h => kind0.2 h) id, hj.2⟩
 ·intro k s t hs ht
  have hlt : k < (chainIdx ks).length := (List.getElem?_eq_some_iff.1 hs).1
  have h1 := List.all_eq_true.1 hchain k (List.mem_range.2 hlt)
  simpa only [hs, ht] using h1
 ·exact List.Nodup.sublist List.filter_sublist List.nodup_range
theorem mixPure {ks : List (Option Bool)} (h : mixB md ops ks = true) (j : Nat) (oj : Oper) (hj : ops[j]? = some oj) (hk : ks[j]? = some (some false)) : pureOp oj = true := by
 simp only [mixB, Bool.and_eq_true] at h
 have hlt : j < ops.size := (Array.getElem?_eq_some_iff.1 hj).1
 have h1 := List.all_eq_true.1 h.1.1.2 j (List.mem_range.2 hlt)
 simp only [hj, Bool.and_eq_true] at h1
 simpa [hk] using h1.1.2
theorem chainOps_eq : ∀ (ks : List (Option Bool)) (l : List Oper) (k : Nat), ks.length = l.length → (∀ j, l[j]? = ops[k + j]?) → chainOps ops (((List.range ks.length).filter fun i => ks[i]? == some none).map (k + ·)) = tailOf ks l
 | [], l, k, _, _ => by simp [chainOps, tailOf]
 | b :: ks, [], k, h, _ => by simp at h
 | b :: ks, o :: l, k, h, hl => by
  have ih := chainOps_eq ks l (k + 1) (by simpa using h) (fun j => by have := hl (j + 1); simpa [Nat.add_assoc, Nat.add_comm 1 j] using this)
  have h0 : ops[k]? = some o := by simpa using (hl 0).symm
  have hsplit : ((List.range (b :: ks).length).filter fun i => (b :: ks)[i]? == some none).map (k + ·) =
    (if b = none then [k] else []) ++ ((List.range ks.length).filter fun i => ks[i]? == some none).map (k + 1 + ·) := by
   rw [List.length_cons, List.range_succ_eq_map, List.filter_cons]
   have e : (List.map Nat.succ (List.range ks.length)).filter (fun i => (b :: ks)[i]? == some none) = ((List.range ks.length).filter fun i => ks[i]? == some none).map Nat.succ := by
    rw [List.filter_map]; rfl
   cases b with
   | none =>
    simp only [List.getElem?_cons_zero, beq_self_eq_true, if_true, List.map_cons, e, List.map_map, Nat.add_zero, List.singleton_append]
    congr 1
    exact List.map_congr_left fun i _ => by simp only [Function.comp_apply]; omega
   | some c =>
    simp only [List.getElem?_cons_zero, e]
    rw [if_neg (by simp)]
    simp only [reduceCtorEq, if_false, List.nil_append, List.map_map]
    exact List.map_congr_left fun i _ => (by show k + (i + 1) = k + 1 + i; omega)
  rw [hsplit]
  cases b with
  | none =>
   simp only [if_true, List.singleton_append, tailOf]
   rw [← ih]
   simp [chainOps, h0]
  | some c =>
   simp only [tailOf]
   rw [← ih]
   simp
theorem entries_of_walk {ks : List (Option Bool)} (hB : mixB md ops ks = true) {w0 : World} (hC : C w0) {R : Act → Prop} :
  ∀ (kr : List (Option Bool)) (l : List Oper) (k : Nat) (a : Act), kr.length = l.length → (∀ j, l[j]? = ops[k + j]?) → (∀ j, kr[j]? = ks[k + j]?) → wpQuiet P ops C R (headOf kr l) a →
   ∃ (qs : List Ent) (A : Act), R A ∧ fillQ qs (Array.replicate ops.size false) a = A ∧ (qs.map (·.1)).Nodup ∧ (∀ q ∈ qs, k ≤ q.1) ∧
    (∀ q ∈ qs, ops[q.1]? = some q.2.2.1 ∧ (ks.map kindNo)[q.1]? ≠ some 2 ∧ (q.2.1 = true → (ks.map kindNo)[q.1]? = some 0) ∧ YK P ops C q.2.1 q.2.2.1 q.2.2.2 A) ∧
    (∀ i, k ≤ i → i < ops.size → (ks.map kindNo)[i]? ≠ some 2 → ∃ q ∈ qs, q.1 = i)
 | [], l, k, a, hlen, hl, _, h => by
  have : l = [] := List.eq_nil_of_length_eq_zero (by simpa using hlen.symm)
  subst this
  refine ⟨[], a, h, rfl, by simp, by simp, by simp, fun i h1 h2 _ => ?_⟩
  have := hl (i - k)
  rw [show k + (i - k) = i by omega] at this
  simp [h2] at this
 | b :: kr, [], k, a, hlen, _, _, _ => by simp at hlen
 | none :: kr, o :: l, k, a, hlen, hl, hk, h => by
  obtain ⟨qs, A, h1, h2, h3, h4, h5, h6⟩ := entries_of_walk hB hC kr l (k + 1) a (by simpa using hlen) (fun j => by have := hl (j + 1); simpa [Nat.add_assoc, Nat.add_comm 1 j] using this) (fun j => by have := hk (j + 1); simpa [Nat.add_assoc, Nat.add_comm 1 j] using this) h
  have hk0 : ks[k]? = some none := by simpa using (hk 0).symm
  refine ⟨qs, A, h1, h2, h3, fun q hq => by have := h4 q hq; omega, h5, fun i hi hlt hne => h6 i ?_ hlt hne⟩
  rcases Nat.lt_or_ge k i with h' | h'
  ·exact h'
  ·obtain rfl : i = k := by omega
   exact absurd (kind2.2 hk0) hne
 | some b :: kr, o :: l, k, a, hlen, hl, hk, h => by
  have ok := mixOk hB
  have h0 : ops[k]? = some o := by simpa using (hl 0).symm
  have hk0 : ks[k]? = some (some b) := by simpa using (hk 0).symm
  have hst : qOp P ops C k (wpQuiet P ops C R (headOf kr l)) a := by unfold qOp; simp only [h0]; exact h
  obtain ⟨v, hy, hK⟩ := yieldsIn_of_qOp h0 hst
  obtain ⟨qs, A, h1, h2, h3, h4, h5, h6⟩ := entries_of_walk hB hC kr l (k + 1) _ (by simpa using hlen) (fun j => by have := hl (j + 1); simpa [Nat.add_assoc, Nat.add_comm 1 j] using this) (fun j => by have := hk (j + 1); simpa [Nat.add_assoc, Nat.add_comm 1 j] using this) hK
  have hlt : k < ops.size := (Array.getElem?_eq_some_iff.1 h0).1
  have hun : (Array.replicate ops.size false).getD k true = false := by simp [hlt]
  have hk2 : (ks.map kindNo)[k]? ≠ some 2 := fun e => by rw [kind2, hk0] at e; cases e
  have hfill : fillQ ((k, b, o, v) :: qs) (Array.replicate ops.size false) a = A := by
   simp only [fillQ]; rw [if_pos hun]; exact h2
  have hbase : YK P ops C b o v a := by
   rcases hy with ⟨hw, hv⟩ | ⟨hw, hv⟩
   ·refine .inl ⟨hw, ?_⟩
    cases b with
    | true => rw [if_pos rfl]; exact hv
    | false =>
     rw [if_neg (by simp)]
     intro w2
     have h7 := hv w0 hC
     have hp := mixPure hB k o h0 hk0
     unfold Oper.quietAt at h7
     cases hr : (execOp a.eval o).run P w0 with
     | ok x w' =>
      rw [hr] at h7
      cases x with
      | value u =>
       obtain ⟨e1, e2⟩ := h7
       subst e1 e2
       exact run_pure hp hr
      | skip => exact absurd hr (pure_noskip hp)
      | enter f args => exact absurd hr (pure_noenter hp)
      | _ => exact h7.elim
     | halt x w' => rw [hr] at h7; exact h7.elim
   ·exact .inr ⟨hw, hv⟩
  have hsame := fillQ_same (ops := ops) ((k, b, o, v) :: qs) (Array.replicate ops.size false) a o (fun cs b' => ok.sel k o cs b' h0) (fun q hq _ d hd hin => by
   have hq' : ops[q.1]? = some q.2.2.1 ∧ (ks.map kindNo)[q.1]? ≠ some 2 ∧ k ≤ q.1 := by
    rcases List.mem_cons.1 hq with rfl | hq
    ·exact ⟨h0, hk2, Nat.le_refl _⟩
    ·exact ⟨(h5 q hq).1, (h5 q hq).2.1, by have := h4 q hq; omega⟩
   have hw := ok.looks q.1 k q.2.2.1 o hq'.1 h0 hq'.2.1 d hd hin
   obtain ⟨oj, hoj, e, he, hb, hon⟩ := Region.waitsFor_spec hw
   have := ok.edges k oj hoj e he hb
   omega)
  rw [hfill] at hsame
  refine ⟨(k, b, o, v) :: qs, A, h1, hfill, ?_, ?_, ?_, ?_⟩
  ·simp only [List.map_cons, List.nodup_cons]
   refine ⟨fun hm => ?_, h3⟩
   obtain ⟨q, hq, e⟩ := List.mem_map.1 hm
   have := h4 q hq
   omega
  ·intro q hq
   rcases List.mem_cons.1 hq with rfl | hq
   ·exact Nat.le_refl _
   ·have := h4 q hq; omega
  ·intro q hq
   rcases List.mem_cons.1 hq with rfl | hq
   ·exact ⟨h0, hk2, fun hb => by subst hb; exact kind0.2 hk0, hbase.of_same hsame.1 hsame.2⟩
   ·exact h5 q hq
  ·intro i hi hlt' hne
   rcases Nat.lt_or_ge k i with h' | h'
   ·obtain ⟨q, hq, e⟩ := h6 i h' hlt' hne
    exact ⟨q, by simp [hq], e⟩
   ·obtain rfl : i = k := by omega
    exact ⟨_, List.mem_cons_self, rfl⟩
theorem wpIn_region_mix (hF : Free F) (ks : List (Option Bool)) {id : Nat} {Q : Exit → Act → World → Prop} {a : Act} {w : World} {l : List Oper} (hm : P.follows .mixedOrders = true) (hnd : noDefer l = true) (hB : mixB .any l.toArray ks = true)
  (hC : C { w with drawn := w.drawn + 1 })
  (h : wpQuiet P l.toArray C (fun A => ∀ w', C w' → wpList P l.toArray (calmPost Q) (tailOf ks l) A w') (headOf ks l) a) : (Code.region id l.toArray true).wpIn F m P Q a w := by
 have ok := mixOk hB
 have hlen : ks.length = l.length := by have := ok.len; simpa using this
 obtain ⟨qs, A, h1, h2, h3, _, h5, h6⟩ := entries_of_walk hB hC ks l 0 a hlen (fun j => by simp) (fun j => by simp) h
 refine wpIn_region_any hm ?_
 refine mix_main (C := C) hF ok (by simpa using noDefer_spec hnd) l.toArray.size (List.range l.toArray.size) _ a _ [] (chainIdx ks) qs A List.nodup_range (fun i => ?_) (by simp) ⟨by simp, fun j oj _ hl => (by rw [getD_replicate_false] at hl; cases hl)⟩ (by simp) (fun t ht => ?_) (by simp) ⟨h3, fun q hq => ⟨(h5 q hq).1, (h5 q hq).2.1, (h5 q hq).2.2.1, fun _ => (h5 q hq).2.2.2⟩, fun i hi hne => h6 i (Nat.zero_le _) hi hne⟩ h2 (.inl ⟨rfl, hC, fun w' hw' => ?_⟩)
 ·rw [List.mem_range]
  constructor
  ·intro hi; simp at hi; simp [hi]
  ·intro hi
   rcases Nat.lt_or_ge i l.toArray.size with h' | h'
   ·exact h'
   ·simp at h'; simp [h'] at hi
 ·have : t < ks.length := by
   have := List.mem_filter.1 ht
   exact List.mem_range.1 this.1
  rw [hlen] at this
  simp [this]
 ·have e := chainOps_eq (ops := l.toArray) ks l 0 hlen (fun j => by simp)
  have e2 : chainIdx ks = ((List.range ks.length).filter fun i => ks[i]? == some none).map (0 + ·) := by simp [chainIdx]
  rw [e2, e]
  exact h1 w' hw'
theorem wp_region_mix (ks : List (Option Bool)) {id : Nat} {Q : Exit → Act → World → Prop} {a : Act} {w : World} {l : List Oper} (hm : P.follows .mixedOrders = true) (hnd : noDefer l = true) (hB : mixB .any l.toArray ks = true)
  (hC : C { w with drawn := w.drawn + 1 })
  (h : wpQuiet P l.toArray C (fun A => ∀ w', C w' → wpList P l.toArray (calmPost Q) (tailOf ks l) A w') (headOf ks l) a) : (Code.region id l.toArray true).wp P Q a w :=
 wpIn_wide.1 (wpIn_region_mix (m := 0) free_wide ks hm hnd hB hC h)
end
end
section
open Go Go.RowKit Go.Shelf
attribute [local go_sem] Oper.semAt_some Grows wide_fn
def leftOf (nx : Nat → Int → Int) (l0 : Int) (pre : List (Fin 4)) : Int := pre.foldl (fun l k => nx k.val l) l0
theorem leftOf_snoc (nx : Nat → Int → Int) (l0 : Int) (pre : List (Fin 4)) (k : Fin 4) : leftOf nx l0 (pre ++ [k]) = nx k.val (leftOf nx l0 pre) := by simp [leftOf]
def madeOf (o nx : Nat → Int → Int) : Int → List (Fin 4) → (Nat → Int) → Nat → Int
 | _, [], m => m
 | l, k :: r, m => madeOf o nx (nx k.val l) r (fun j => if j = k.val then o k.val l else m j)
theorem madeOf_snoc (o nx : Nat → Int → Int) (k : Fin 4) : ∀ (pre : List (Fin 4)) (l0 : Int) (m : Nat → Int), madeOf o nx l0 (pre ++ [k]) m = fun j => if j = k.val then o k.val (leftOf nx l0 pre) else madeOf o nx l0 pre m j
 | [], l0, m => rfl
 | x :: r, l0, m => by
  show madeOf o nx (nx x.val l0) (r ++ [k]) _ = _
  rw [madeOf_snoc o nx k r]
  rfl
def JoinAt (H : Nat) (zA zB : Nat → Int) (fv : Value) (m : Nat → Int) (l : Int) (W : World) : Prop :=
 Arr4 W H 24 zA ∧ Arr4 W (H + 1) 24 zB ∧ Boxed W (H + 1 + 1) 22 (.int .u64 l) ∧ Boxed W (H + 1 + 1 + 1) 121 fv ∧
  Arr4 W (H + 1 + 1 + 1 + 1) 24 (fun _ => 0) ∧ Arr4 W (H + 1 + 1 + 1 + 1 + 1) 24 m ∧ Boxed W (H + 1 + 1 + 1 + 1 + 1 + 1) 125 (.pointer (some ⟨H, 0, none⟩))
theorem JoinAt.own {β : Type} (H : Nat) (zA zB : Nat → Int) (fv : Value) (m : β → Nat → Int) (l : β → Int) : Own (fun s W => JoinAt H zA zB fv (m s) (l s) W) := fun s X Y row hs hg hr =>
 ⟨Arr4.own H _ (fun _ : β => zA) s X Y row hs.1 hg hr, Arr4.own (H + 1) _ (fun _ : β => zB) s X Y row hs.2.1 hg hr, boxed_own (H + 1 + 1) _ (fun s : β => Value.int .u64 (l s)) s X Y row hs.2.2.1 hg hr, boxed_own (H + 1 + 1 + 1) _ (fun _ : β => fv) s X Y row hs.2.2.2.1 hg hr,
  Arr4.own (H + 1 + 1 + 1 + 1) _ (fun _ : β => fun _ => 0) s X Y row hs.2.2.2.2.1 hg hr, Arr4.own (H + 1 + 1 + 1 + 1 + 1) _ m s X Y row hs.2.2.2.2.2.1 hg hr, boxed_own (H + 1 + 1 + 1 + 1 + 1 + 1) _ (fun _ : β => _) s X Y row hs.2.2.2.2.2.2 hg hr⟩
theorem join_u64 (g : FuncId) (zA zB : Nat → Int) (o nx : Nat → Int → Int) (l0 : Int) (Lb : Int → Prop) (hL0 : Lb l0) (hLn : ∀ k, k < 4 → ∀ l, Lb l → Lb (nx k l))
  (hrun : ∀ k, k < 4 → ∀ l, Lb l → ∀ W, (callFunc g #[.int .u64 (zA k), .int .u64 (zB k), .int .u64 l]).run Tryz.prog W = .ok (.value (.tuple #[.int .u64 (o k l), .int .u64 (nx k l)])) W)
  (w : World) :
  Calls Tryz.prog 135 #[.agg #[.int .u64 (zA 0), .int .u64 (zA 1), .int .u64 (zA 2), .int .u64 (zA 3)], .agg #[.int .u64 (zB 0), .int .u64 (zB 1), .int .u64 (zB 2), .int .u64 (zB 3)], .int .u64 l0, .func (.func g) #[] #[]] w fun e w' =>
   e = .returned (.tuple #[.agg #[.int .u64 (madeOf o nx l0 [0, 1, 2, 3] (fun _ => 0) 0), .int .u64 (madeOf o nx l0 [0, 1, 2, 3] (fun _ => 0) 1), .int .u64 (madeOf o nx l0 [0, 1, 2, 3] (fun _ => 0) 2), .int .u64 (madeOf o nx l0 [0, 1, 2, 3] (fun _ => 0) 3)], .int .u64 (leftOf nx l0 [0, 1, 2, 3])]) ∧ Below w.heap.size w w' := by
 have h1 : 1 ≤ 3 := by omega
 refine (callsIn_wide (n := 3)).1 ?_
 refine callsIn_of_wp_marks Tryz.func135 rfl trivial ?_ rfl
 simp only [Tryz.ntmps135, List.size_toArray, List.length_cons, List.length_nil, Nat.reduceAdd, Nat.reduceSub, Array.replicate_succ, Array.replicate_zero, List.push_toArray, List.append_toArray, List.nil_append, List.cons_append]
 gi_wp2_with (gi_at_call 137; refine (callsIn_free free_wide (parts_any _ _)).mono ?_; rintro e w' ⟨rfl, rfl⟩)
 obtain ⟨W0, hW0⟩ : ∃ W0, (((((((w.alloc (.cells #[.int .u64 (zA 0), .int .u64 (zA 1), .int .u64 (zA 2), .int .u64 (zA 3)] 24)).alloc (.cells #[.int .u64 (zB 0), .int .u64 (zB 1), .int .u64 (zB 2), .int .u64 (zB 3)] 24)).alloc (.cells #[.int .u64 l0] 22)).alloc (.cells #[.func (.func g) #[] #[]] 121)).alloc (.cells #[.int .u64 0, .int .u64 0, .int .u64 0, .int .u64 0] 24)).alloc (.cells #[.int .u64 0, .int .u64 0, .int .u64 0, .int .u64 0] 24)).alloc (.cells #[.pointer (some ⟨w.heap.size, 0, none⟩)] 125)) = W0 := ⟨_, rfl⟩
 have hB0 : Below w.heap.size w W0 := by
  rw [← hW0]; exact (((((((Below.refl _ w).alloc (by first | exact Nat.le_refl _ | (simp; done) | (simp; omega)) _).alloc (by first | exact Nat.le_refl _ | (simp; done) | (simp; omega)) _).alloc (by first | exact Nat.le_refl _ | (simp; done) | (simp; omega)) _).alloc (by first | exact Nat.le_refl _ | (simp; done) | (simp; omega)) _).alloc (by first | exact Nat.le_refl _ | (simp; done) | (simp; omega)) _).alloc (by first | exact Nat.le_refl _ | (simp; done) | (simp; omega)) _).alloc (by first | exact Nat.le_refl _ | (simp; done) | (simp; omega)) _
 have hsz : W0.heap.size = w.heap.size + 7 := by rw [← hW0]; simp
 have hJ0 : JoinAt w.heap.size zA zB (.func (.func g) #[] #[]) (fun _ => 0) l0 W0 := by
  rw [← hW0]
  refine ⟨?_, ?_, ?_, ?_, ?_, ?_, ?_⟩
  ·have h := World.alloc_heap_new w (.cells #[.int .u64 (zA 0), .int .u64 (zA 1), .int .u64 (zA 2), .int .u64 (zA 3)] 24)
   exact (((((((show Arr4 _ _ _ zA from h).alloc _).alloc _).alloc _).alloc _).alloc _).alloc _)
  ·have h := World.alloc_heap_new (w.alloc (.cells #[.int .u64 (zA 0), .int .u64 (zA 1), .int .u64 (zA 2), .int .u64 (zA 3)] 24)) (.cells #[.int .u64 (zB 0), .int .u64 (zB 1), .int .u64 (zB 2), .int .u64 (zB 3)] 24)
   rw [World.size_alloc] at h
   exact ((((((show Arr4 _ _ _ zB from h).alloc _).alloc _).alloc _).alloc _).alloc _)
  ·have h := Boxed.new ((w.alloc (.cells #[.int .u64 (zA 0), .int .u64 (zA 1), .int .u64 (zA 2), .int .u64 (zA 3)] 24)).alloc (.cells #[.int .u64 (zB 0), .int .u64 (zB 1), .int .u64 (zB 2), .int .u64 (zB 3)] 24)) 22 (.int .u64 l0)
   rw [World.size_alloc, World.size_alloc] at h
   exact ((((h.alloc _).alloc _).alloc _).alloc _)
  ·have h := Boxed.new (((w.alloc (.cells #[.int .u64 (zA 0), .int .u64 (zA 1), .int .u64 (zA 2), .int .u64 (zA 3)] 24)).alloc (.cells #[.int .u64 (zB 0), .int .u64 (zB 1), .int .u64 (zB 2), .int .u64 (zB 3)] 24)).alloc (.cells #[.int .u64 l0] 22)) 121 (.func (.func g) #[] #[])
   rw [World.size_alloc, World.size_alloc, World.size_alloc] at h
   exact (((h.alloc _).alloc _).alloc _)
  ·have h := World.alloc_heap_new ((((w.alloc (.cells #[.int .u64 (zA 0), .int .u64 (zA 1), .int .u64 (zA 2), .int .u64 (zA 3)] 24)).alloc (.cells #[.int .u64 (zB 0), .int .u64 (zB 1), .int .u64 (zB 2), .int .u64 (zB 3)] 24)).alloc (.cells #[.int .u64 l0] 22)).alloc (.cells #[.func (.func g) #[] #[]] 121)) (.cells #[.int .u64 0, .int .u64 0, .int .u64 0, .int .u64 0] 24)
   rw [World.size_alloc, World.size_alloc, World.size_alloc, World.size_alloc] at h
   exact (((show Arr4 _ _ _ (fun _ => 0) from h).alloc _).alloc _)
  ·have h := World.alloc_heap_new (((((w.alloc (.cells #[.int .u64 (zA 0), .int .u64 (zA 1), .int .u64 (zA 2), .int .u64 (zA 3)] 24)).alloc (.cells #[.int .u64 (zB 0), .int .u64 (zB 1), .int .u64 (zB 2), .int .u64 (zB 3)] 24)).alloc (.cells #[.int .u64 l0] 22)).alloc (.cells #[.func (.func g) #[] #[]] 121)).alloc (.cells #[.int .u64 0, .int .u64 0, .int .u64 0, .int .u64 0] 24)) (.cells #[.int .u64 0, .int .u64 0, .int .u64 0, .int .u64 0] 24)
   rw [World.size_alloc, World.size_alloc, World.size_alloc, World.size_alloc, World.size_alloc] at h
   exact ((show Arr4 _ _ _ (fun _ => 0) from h).alloc _)
  ·have h := Boxed.new ((((((w.alloc (.cells #[.int .u64 (zA 0), .int .u64 (zA 1), .int .u64 (zA 2), .int .u64 (zA 3)] 24)).alloc (.cells #[.int .u64 (zB 0), .int .u64 (zB 1), .int .u64 (zB 2), .int .u64 (zB 3)] 24)).alloc (.cells #[.int .u64 l0] 22)).alloc (.cells #[.func (.func g) #[] #[]] 121)).alloc (.cells #[.int .u64 0, .int .u64 0, .int .u64 0, .int .u64 0] 24)).alloc (.cells #[.int .u64 0, .int .u64 0, .int .u64 0, .int .u64 0] 24)) 125 (.pointer (some ⟨w.heap.size, 0, none⟩))
   rw [World.size_alloc, World.size_alloc, World.size_alloc, World.size_alloc, World.size_alloc, World.size_alloc] at h
   exact h
 rw [hW0]
 clear hW0
 have hcP := Boxed.cell hJ0.2.2.2.2.2.2
 have hA' : ∀ j, j < 4 → W0.cell? ⟨w.heap.size, j, none⟩ = some (.int .u64 (zA j)) := fun j hj => hJ0.1.cell hj
 refine wpIn_rangeFunc_ownG rfl h1 (gf := 160) (lb := #[.pointer (some ⟨w.heap.size + 1 + 1 + 1 + 1 + 1 + 1, 0, none⟩)]) rfl trivial (enters_of Tryz.func160 (by kernel_rfl) rfl)
  (parts_stops Fence.wide _ trivial rfl (by omega) _ (w.heap.size) zA W0 (by omega) (by omega) hcP hA') KeepsAt.trans (KeepsAt.b (by simp; omega)) (Below.refl _ _) (fun _ => rfl)
  (fun pre W => (JoinAt w.heap.size zA zB (.func (.func g) #[] #[]) (madeOf o nx l0 pre (fun _ => 0)) (leftOf nx l0 pre) W ∧ Lb (leftOf nx l0 pre)) ∧ Below w.heap.size w W)
  (fun _ _ _ => False)
  ?hI
  (fun _ _ _ _ _ hs _ _ => hs)
  ⟨⟨hJ0, hL0⟩, hB0⟩
  (fun x => { tmps := #[.agg #[.int .u64 (zA 0), .int .u64 (zA 1), .int .u64 (zA 2), .int .u64 (zA 3)], .agg #[.int .u64 (zB 0), .int .u64 (zB 1), .int .u64 (zB 2), .int .u64 (zB 3)], .int .u64 l0, .func (.func g) #[] #[], .pointer (some ⟨w.heap.size, 0, none⟩), .pointer (some ⟨w.heap.size + 1, 0, none⟩), .pointer (some ⟨w.heap.size + 1 + 1, 0, none⟩), .pointer (some ⟨w.heap.size + 1 + 1 + 1, 0, none⟩), .pointer (some ⟨w.heap.size + 1 + 1 + 1 + 1, 0, none⟩), .int .u64 0, .pointer (some ⟨w.heap.size + 1 + 1 + 1 + 1 + 1, 0, none⟩), .int .i64 (x.val : Int), .int .u64 (zA x.val), .agg #[.int .u64 0, .int .u64 0, .int .u64 0, .int .u64 0], .func (.func 160) #[] #[.pointer (some ⟨w.heap.size + 1 + 1 + 1 + 1 + 1 + 1, 0, none⟩)], .int .i64 (x.val : Int), .int .u64 (zA x.val), undef, undef, undef, undef, undef, undef, undef, undef, undef, undef, undef, undef, undef, undef], defers := [] }) ?assign ?body ?done ?stop
 case hI => exact OwnFrom.and (OwnFrom.and (Own.from (JoinAt.own _ _ _ _ _ _) _) (ownFrom_pure _ _)) (ownFrom_below (Nat.le_refl _) (by omega))
 case assign =>
  intro l x W K hK
  gi_wp2
  exact hK
 case body =>
  rintro l pre ⟨k, hk⟩ W ⟨⟨⟨bA, bB, b6, b7, b8, b10, bP⟩, hl⟩, hBw⟩ _
  have hmx : Tryz.prog.follows .mixedOrders = true := by kernel_rfl
  have c6 := b6.cell
  have c7 := b7.cell
  have cB := bB.cell hk
  have f6 := b6.frozen
  have f10 := b10.frozen k
  have c10 := b10.cell hk
  have hk0 : (0 : Int) ≤ (k : Int) := by omega
  have hk4 : (k : Int) < 4 := by omega
  have hr := hrun k hk _ hl
  clear hrun hA' hcP
  have hM := Lib.hid (madeOf_snoc o nx ⟨k, hk⟩ pre l0 (fun _ => 0))
  have hL := Lib.hid (leftOf_snoc nx l0 pre ⟨k, hk⟩)
  have hLb := hLn k hk _ hl
  generalize leftOf nx l0 pre = lx at *
  generalize madeOf o nx l0 pre (fun _ => 0) = mx at *
  have e6 : ∀ x : Ext W, x.w.cell? ⟨w.heap.size + 1 + 1, 0, none⟩ = some (.int .u64 lx) := fun x => (x.cell b6.lt).trans c6
  have e7 : ∀ x : Ext W, x.w.cell? ⟨w.heap.size + 1 + 1 + 1, 0, none⟩ = some (.func (.func g) #[] #[]) := fun x => (x.cell b7.lt).trans c7
  have eB : ∀ x : Ext W, x.w.cell? ⟨w.heap.size + 1, k, none⟩ = some (.int .u64 (zB k)) := fun x => (x.cell (p := ⟨_, k, none⟩) bB.lt).trans cB
  have e10 : ∀ x : Ext W, x.w.cell? ⟨w.heap.size + 1 + 1 + 1 + 1 + 1, k, none⟩ = some (.int .u64 (mx k)) := fun x => (x.cell (p := ⟨_, k, none⟩) b10.lt).trans c10
  have g6 : ∀ x : Ext W, x.w.frozen? ⟨w.heap.size + 1 + 1, 0, none⟩ = false := fun x => (x.frozen b6.lt).trans f6
  have g10 : ∀ x : Ext W, x.w.frozen? ⟨w.heap.size + 1 + 1 + 1 + 1 + 1, k, none⟩ = false := fun x => (x.frozen (p := ⟨_, k, none⟩) b10.lt).trans f10
  clear c6 c7 cB c10 f6 f10
  gi_wp2
  refine wpIn_region_mix (C := Grows W) (free_round l) [some true, some true, some true, some true, some true, some true, some true, some true, some true, some true, some false, some true, none, none] hmx (by kernel_rfl) (by kernel_rfl) (grows_refl W) ?_
  simp only [headOf, tailOf]
  repeat (go_big_quiet_step (fail))
  refine wpQuiet_nil ?_
  rintro _ ⟨x, rfl⟩
  go_wp2
  rw [calmPost_normal]
  refine ⟨((x.keeps _).trans ((KeepsOthers.setCell _ _ _).from _)).trans ((KeepsOthers.setCell _ _ _).from _), ?_, ⟨⟨?_, by rw [hL.out]; exact hLb⟩, ?_⟩⟩
  ·exact (((KeepsAt.refl _ _).below x.below (fun b hb => by simp at hb; have := hBw.size; have := b10.lt; have := bP.lt; omega)).setCell (by simp; omega) _).setCell (by simp; omega) _
  ·rw [hM.out, hL.out]
   have F1 : ∀ {a b : Nat}, a ≠ b → a ≠ b := fun h => h
   exact ⟨Arr4.other (Arr4.other (Arr4.below bA x.below (Arr4.lt bA)) (by first | (simp; done) | (simp; omega)) _) (by first | (simp; done) | (simp; omega)) _, Arr4.other (Arr4.other (Arr4.below bB x.below (Arr4.lt bB)) (by first | (simp; done) | (simp; omega)) _) (by first | (simp; done) | (simp; omega)) _, Boxed.set _ (Boxed.away (Boxed.below b6 x.below (Boxed.lt b6)) (by first | (simp; done) | (simp; omega)) _), Boxed.away (Boxed.away (Boxed.below b7 x.below (Boxed.lt b7)) (by first | (simp; done) | (simp; omega)) _) (by first | (simp; done) | (simp; omega)) _,
    Arr4.other (Arr4.other (Arr4.below b8 x.below (Arr4.lt b8)) (by first | (simp; done) | (simp; omega)) _) (by first | (simp; done) | (simp; omega)) _, Arr4.other (Arr4.set (Arr4.below b10 x.below (Arr4.lt b10)) hk _) (by first | (simp; done) | (simp; omega)) _, Boxed.away (Boxed.away (Boxed.below bP x.below (Boxed.lt bP)) (by first | (simp; done) | (simp; omega)) _) (by first | (simp; done) | (simp; omega)) _⟩
  ·exact ((hBw.trans (x.below.mono hBw.size)).setCell (p := ⟨_, k, none⟩) (by simp; omega) _).setCell (p := ⟨_, 0, none⟩) (by simp; omega) _
 case done =>
  rintro D ys W hD rfl ⟨⟨⟨bA, bB, b6, b7, b8, b10, bP⟩, hl⟩, hBw⟩ hK
  gi_wp2
  have hmx : Tryz.prog.follows .mixedOrders = true := by kernel_rfl
  have c6 := b6.cell
  have c0 := b10.cell (j := 0) (by omega)
  have c1 := b10.cell (j := 1) (by omega)
  have c2 := b10.cell (j := 2) (by omega)
  have c3 := b10.cell (j := 3) (by omega)
  have d0 := b8.cell (j := 0) (by omega)
  have d1 := b8.cell (j := 1) (by omega)
  have d2 := b8.cell (j := 2) (by omega)
  have d3 := b8.cell (j := 3) (by omega)
  have f0 := b8.frozen 0
  have f1 := b8.frozen 1
  have f2 := b8.frozen 2
  have f3 := b8.frozen 3
  clear hrun hA' hcP hJ0 hB0 hL0 hLn hl bA bB
  have b8' : Arr4 ((((W.setCell ⟨w.heap.size + 1 + 1 + 1 + 1, 0, none⟩ (.int .u64 (madeOf o nx l0 [0, 1, 2, 3] (fun _ => 0) 0))).setCell ⟨w.heap.size + 1 + 1 + 1 + 1, 1, none⟩ (.int .u64 (madeOf o nx l0 [0, 1, 2, 3] (fun _ => 0) 1))).setCell ⟨w.heap.size + 1 + 1 + 1 + 1, 2, none⟩ (.int .u64 (madeOf o nx l0 [0, 1, 2, 3] (fun _ => 0) 2))).setCell ⟨w.heap.size + 1 + 1 + 1 + 1, 3, none⟩ (.int .u64 (madeOf o nx l0 [0, 1, 2, 3] (fun _ => 0) 3))) (w.heap.size + 1 + 1 + 1 + 1) 24 (madeOf o nx l0 [0, 1, 2, 3] (fun _ => 0)) := by
   have h := Arr4.set (Arr4.set (Arr4.set (Arr4.set b8 (k := 0) (by omega) (madeOf o nx l0 [0, 1, 2, 3] (fun _ => 0) 0)) (k := 1) (by omega) (madeOf o nx l0 [0, 1, 2, 3] (fun _ => 0) 1)) (k := 2) (by omega) (madeOf o nx l0 [0, 1, 2, 3] (fun _ => 0) 2)) (k := 3) (by omega) (madeOf o nx l0 [0, 1, 2, 3] (fun _ => 0) 3)
   exact h
  have HB8 := Lib.hid b8'
  clear b8'
  gi_region_o
  all_goals gi_wp2
  all_goals
   have hK' := (((((KeepsOthers.setCell W ⟨w.heap.size + 1 + 1 + 1 + 1, 0, none⟩ (.int .u64 (madeOf o nx l0 [0, 1, 2, 3] (fun _ => 0) 0))).trans (KeepsOthers.setCell _ ⟨w.heap.size + 1 + 1 + 1 + 1, 1, none⟩ (.int .u64 (madeOf o nx l0 [0, 1, 2, 3] (fun _ => 0) 1)))).trans (KeepsOthers.setCell _ ⟨w.heap.size + 1 + 1 + 1 + 1, 2, none⟩ (.int .u64 (madeOf o nx l0 [0, 1, 2, 3] (fun _ => 0) 2)))).trans (KeepsOthers.setCell _ ⟨w.heap.size + 1 + 1 + 1 + 1, 3, none⟩ (.int .u64 (madeOf o nx l0 [0, 1, 2, 3] (fun _ => 0) 3)))).trans (KeepsOthers.drew _)).same D _ hK rfl
   have b8 := HB8.out
   have hBf := ((((hBw.setCell (p := ⟨w.heap.size + 1 + 1 + 1 + 1, 0, none⟩) (by simp; omega) (.int .u64 (madeOf o nx l0 [0, 1, 2, 3] (fun _ => 0) 0))).setCell (p := ⟨w.heap.size + 1 + 1 + 1 + 1, 1, none⟩) (by simp; omega) (.int .u64 (madeOf o nx l0 [0, 1, 2, 3] (fun _ => 0) 1))).setCell (p := ⟨w.heap.size + 1 + 1 + 1 + 1, 2, none⟩) (by simp; omega) (.int .u64 (madeOf o nx l0 [0, 1, 2, 3] (fun _ => 0) 2))).setCell (p := ⟨w.heap.size + 1 + 1 + 1 + 1, 3, none⟩) (by simp; omega) (.int .u64 (madeOf o nx l0 [0, 1, 2, 3] (fun _ => 0) 3))).drew
   refine ⟨by simp, .inl ⟨_, _, rfl, run_takeDeferred hK', ?_⟩⟩
   have b9 := Arr4.kept (Arr4.drew b8) (grownBy_putObj' _ D (.deferred none)) (fun e => by cases e; have := (show _ = _ from Arr4.drew b8).symm.trans hK'; cases this)
   have e0 := b9.cell (j := 0) (by omega)
   have e1 := b9.cell (j := 1) (by omega)
   have e2 := b9.cell (j := 2) (by omega)
   have e3 := b9.cell (j := 3) (by omega)
   exact ⟨_, by simp [results, Tryz.f135, go_sem, e0, e1, e2, e3], rfl, hBf.trans (belowK_b (w := w) (Nat.le_refl _) _ D _ _ (by omega) hK' rfl rfl)⟩
 case stop =>
  rintro D c pre W _ _ h _
  exact h.elim
end
end Go.Proofs.YtnkhmgmganejmaaGreatDoor
