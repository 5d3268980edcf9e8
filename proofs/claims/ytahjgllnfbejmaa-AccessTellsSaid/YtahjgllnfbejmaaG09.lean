/- Part. -/
import Derived.Test.YtahjgllnfbejmaaG02
import Derived.Test.YtahjgllnfbejmaaG08
import Derived.Test.YtahjgllnfbejmaaG03
import Derived.Test.YtahjgllnfbejmaaG04
import Derived.Test.YtahjgllnfbejmaaG07
set_option maxRecDepth 100000
set_option maxHeartbeats 16000000
namespace Go.Proofs.Ytahjgllnfbejmaa.Late
open Go Go.RowKit Go.BigFrame
section
variable {P : Program} {md : Region.Mode}
structure GhostOk (md : Region.Mode) (l : List Oper) (deps : List (List Nat)) : Prop where
 sel : ∀ (j : Nat) (o : Oper) cs b, l[j]? = some o → o.op ≠ .select cs b
 edges : ∀ (j : Nat) (oj : Oper), l[j]? = some oj → ∀ e ∈ oj.after, Region.binds md e = true → e.on < j
 told : ∀ i, i < l.length → ∀ j ∈ deps.getD i [], j < i ∧ ∃ k, Region.waitsFor md l.toArray i k = true ∧ (j = k ∨ j ∈ deps.getD k [])
 looks : ∀ (i j : Nat) (oi oj : Oper), l[i]? = some oi → l[j]? = some oj → ∀ d, oj.dst = some d → d ∈ oi.looksAt l.toArray → j ∈ deps.getD i [] ∨ i ∈ deps.getD j []
 dsts : ∀ (i j : Nat) (oi oj : Oper), l[i]? = some oi → l[j]? = some oj → j ≠ i → ∀ d, oi.dst = some d → oj.dst ≠ some d
def ghostOne (md : Region.Mode) (l : List Oper) (deps : List (List Nat)) (i : Nat) (oi : Oper) : Bool :=
 (oi.after.all fun e => !Region.binds md e || decide (e.on < i)) &&
 ((deps.getD i []).all fun j => decide (j < i) && ((List.range l.length).any fun k => Region.waitsFor md l.toArray i k && (j == k || (deps.getD k []).contains j))) &&
 ((List.range l.length).all fun j => match l[j]? with
  | none => true
  | some oj => match oj.dst with
   | none => true
   | some d => (!(oi.looksAt l.toArray).contains d || ((deps.getD i []).contains j || (deps.getD j []).contains i)) && (j == i || oi.dst != some d))
def ghostB (md : Region.Mode) (l : List Oper) (deps : List (List Nat)) : Bool :=
 Region.noSelect l.toArray &&
 ((List.range l.length).all fun i => match l[i]? with
  | none => true
  | some oi => ghostOne md l deps i oi)
theorem ghostOk {md : Region.Mode} {l : List Oper} {deps : List (List Nat)} (h : ghostB md l deps = true) : GhostOk md l deps := by
 unfold ghostB at h
 rw [Bool.and_eq_true] at h
 obtain ⟨h1, h2⟩ := h
 have key : ∀ i oi, l[i]? = some oi → ghostOne md l deps i oi = true := fun i oi hi => by
  have := List.all_eq_true.1 h2 i (List.mem_range.2 (List.getElem?_eq_some_iff.1 hi).1)
  simpa only [hi] using this
 have key1 : ∀ (i : Nat) (oi : Oper), l[i]? = some oi → (oi.after.all fun e => !Region.binds md e || decide (e.on < i)) = true := fun i oi hi => by
  have := key i oi hi
  unfold ghostOne at this
  rw [Bool.and_eq_true, Bool.and_eq_true] at this
  exact this.1.1
 have key2 : ∀ (i : Nat) (oi : Oper), l[i]? = some oi → ((deps.getD i []).all fun j => decide (j < i) && ((List.range l.length).any fun k => Region.waitsFor md l.toArray i k && (j == k || (deps.getD k []).contains j))) = true := fun i oi hi => by
  have := key i oi hi
  unfold ghostOne at this
  rw [Bool.and_eq_true, Bool.and_eq_true] at this
  exact this.1.2
 have key3 : ∀ (i : Nat) (oi : Oper) (j : Nat) (oj : Oper) (d : Tmp), l[i]? = some oi → l[j]? = some oj → oj.dst = some d → ((oi.looksAt l.toArray).contains d = true → ((deps.getD i []).contains j || (deps.getD j []).contains i) = true) ∧ (j ≠ i → oi.dst ≠ some d) := fun i oi j oj d hi hj hd => by
  have := key i oi hi
  unfold ghostOne at this
  rw [Bool.and_eq_true] at this
  have := List.all_eq_true.1 this.2 j (List.mem_range.2 (List.getElem?_eq_some_iff.1 hj).1)
  simp only [hj, hd] at this
  rw [Bool.and_eq_true] at this
  refine ⟨fun h => ?_, fun hne => ?_⟩
  ·have h1 := this.1
   rw [h] at h1
   simpa only [Bool.not_true, Bool.false_or] using h1
  ·have h2 := this.2
   rw [Bool.or_eq_true, beq_iff_eq, bne_iff_ne] at h2
   rcases h2 with h' | h'
   ·exact absurd h' hne
   ·exact h'
 refine ⟨fun j o cs b hj => Region.noSelect_spec h1 j o cs b (by simpa using hj), fun j oj hj e he hb => ?_, fun i hi j hj => ?_, fun i j oi oj hi hj d hd hin => ?_, fun i j oi oj hi hj hne d hd hd' => (key3 i oi j oj d hi hj hd').2 hne hd⟩
 ·have := Array.all_eq_true_iff_forall_mem.1 (key1 j oj hj) e he
  rw [hb] at this
  simpa using this
 ·have := List.all_eq_true.1 (key2 i l[i] (by simp [hi])) j hj
  rw [Bool.and_eq_true, decide_eq_true_eq] at this
  obtain ⟨k, _, hk⟩ := List.any_eq_true.1 this.2
  rw [Bool.and_eq_true, Bool.or_eq_true, beq_iff_eq, List.contains_iff_mem] at hk
  exact ⟨this.1, k, hk.1, hk.2⟩
 ·have h3 := (key3 i oi j oj d hi hj hd).1 (List.contains_iff_mem.2 hin)
  rw [Bool.or_eq_true, List.contains_iff_mem, List.contains_iff_mem] at h3
  exact h3
variable {ops : Array Oper} {c : List (Option Value)} {deps : List (List Nat)} {U : (Nat → Bool) → (Nat → Value) → World → Prop} {Q : Exit → Act → World → Prop} {f : Nat → Bool} {g : Nat → Value} {w : World}
variable {F : Fence} {m : Nat}
structure Held (md : Region.Mode) (l : List Oper) (c : List (Option Value)) (deps : List (List Nat)) (U : (Nat → Bool) → (Nat → Value) → World → Prop) (a0 : Act) (listed : Array Bool) (g : Nat → Value) (a : Act) (w : World) : Prop where
 closed : Closed md l.toArray listed
 act : a = putsG (fun j => listed.getD j false) g 0 l a0
 vals : ∀ j v, listed.getD j false = true → c.getD j none = some v → g j = v
 down : ∀ k, listed.getD k false = true → ∀ j ∈ deps.getD k [], listed.getD j false = true
 world : U (fun j => listed.getD j false) g w
theorem exists_ready' {l : List Oper} (hedges : ∀ (j : Nat) (oj : Oper), l[j]? = some oj → ∀ e ∈ oj.after, Region.binds md e = true → e.on < j) {listed : Array Bool} (hc : Closed md l.toArray listed) : ∀ i, listed.getD i true = false → ∃ j, j ∈ Region.ready md l.toArray listed := by
 intro i
 induction i using Nat.strongRecOn with
 | _ i ih =>
  intro hi
  by_cases h : ∃ oi, l.toArray[i]? = some oi ∧ ∃ e ∈ oi.after, Region.binds md e = true ∧ listed.getD e.on false = false
  ·obtain ⟨oi, hoi, e, he, hb, hf⟩ := h
   have hlt := hedges i oi (by simpa using hoi) e he hb
   have hil : i < listed.size := by
    rw [hc.1]; exact (Array.getElem?_eq_some_iff.1 hoi).1
   exact ih e.on hlt (getD_in (by omega) hf)
  ·refine ⟨i, mem_ready.2 ⟨hi, ?_⟩⟩
   have hil : i < l.toArray.size := by
    rw [← hc.1]
    rcases Nat.lt_or_ge i listed.size with h' | h'
    ·exact h'
    ·simp [Array.getElem?_eq_none h'] at hi
   refine ⟨l.toArray[i], by simp [], fun e he hb => ?_⟩
   cases hl : listed.getD e.on false with
   | true => rfl
   | false => exact absurd ⟨l.toArray[i], by simp [], e, he, hb, hl⟩ h
theorem ghost_main (hF : Free F) {l : List Oper} {a0 : Act} (ok : GhostOk md l deps) (hnd : ∀ o ∈ l, ∀ q, o.op ≠ .defer q)
  (hg : ∀ f g w w', U f g w → Below w.heap.size w w' → U f g w')
  (hi : ∀ f f' g g' w, (∀ j, c.getD j none = none → f j = f' j ∧ g j = g' j) → U f g w → U f' g' w)
  (hw : ∀ f g w, U f g w → (∀ k, f k = true → ∀ j ∈ deps.getD k [], f j = true) → GW P l.toArray c deps U Q f g w 0 l a0) :
  ∀ (fuel : Nat) (V : List Nat) (listed : Array Bool) (g : Nat → Value) (a : Act) (w : World), V.Nodup → (∀ i, i ∈ V ↔ listed.getD i true = false) → V.length = fuel → Held md l c deps U a0 listed g a w →
   wpAnyIn F m P md l.toArray Q fuel listed a w := by
 intro fuel
 induction fuel with
 | zero =>
  intro V listed g a w hV hVm hVl H
  have hnil : V = [] := List.eq_nil_of_length_eq_zero hVl
  subst hnil
  have hall : ∀ i, listed.getD i true = true := fun i => by
   cases hi : listed.getD i true with
   | true => rfl
   | false => have := (hVm i).2 hi; cases this
  have hallf : ∀ i, i < l.length → listed.getD i false = true := fun i hil => by
   cases hi : listed.getD i false with
   | true => rfl
   | false => have := getD_in (by rw [H.closed.1]; simpa using hil) hi; rw [hall] at this; cases this
  refine ⟨?_, ?_⟩
  ·apply List.eq_nil_iff_forall_not_mem.2
   intro j hj
   have := (mem_ready.1 hj).1
   rw [hall] at this; cases this
  ·have h0 : putsG (fun j => decide (j < 0)) (knownG c g) 0 l a0 = a0 := by
    rw [putsG_congr l 0 a0 (fun j => decide (j < 0)) (fun _ => false) (knownG c g) g (fun j _ _ => ⟨by simp, fun h => by simp at h⟩)]
    have : ∀ (t : List Oper) k, putsG (fun _ => false) g k t a0 = a0 := by
     intro t
     induction t with
     | nil => intro k; rfl
     | cons o t ih => intro k; simp only [putsG, Bool.false_eq_true, if_false]; exact ih _
    exact this l 0
   have hGW := hw _ _ _ H.world H.down
   rw [← h0] at hGW
   have := (GW.at ok.dsts l 0 (fun j => by simp) (by simp) (by rw [h0] at hGW ⊢; exact hGW)).2 hallf
   rw [H.act]
   rw [putsG_congr l 0 a0 (fun j => listed.getD j false) (fun j => decide (j < l.length)) g (knownG c g) (fun j _ hj => ⟨by rw [hallf j (by omega)]; simp; omega, fun hf => by
    unfold knownG
    cases hc : c.getD j none with
    | none => rfl
    | some v => rw [H.vals j v hf hc]; rfl⟩)]
   exact this
 | succ fuel ih =>
  intro V listed g a w hV hVm hVl H
  refine ⟨fun h0 => ?_, fun i hir => ?_⟩
  ·obtain ⟨j, hj⟩ : ∃ j, j ∈ V := by
    cases V with
    | nil => cases hVl
    | cons x r => exact ⟨x, by simp⟩
   obtain ⟨k, hk⟩ := exists_ready' ok.edges H.closed j ((hVm j).1 hj)
   rw [h0] at hk; cases hk
  ·obtain ⟨hun, oi, hoi, hall⟩ := mem_ready.1 hir
   have hoi' : l[i]? = some oi := by simpa using hoi
   have hilt : i < l.length := (List.getElem?_eq_some_iff.1 hoi').1
   have hiV : i ∈ V := (hVm i).2 hun
   have hV' : (V.erase i).Nodup := hV.erase i
   have hVm' : ∀ j, j ∈ V.erase i ↔ (listed.setIfInBounds i true).getD j true = false := fun j => by
    by_cases hji : j = i
    ·subst hji
     rw [getD_set_true']
     simp [hV.not_mem_erase]
    ·rw [List.mem_erase_of_ne hji, hVm j, getD_set_ne true (Ne.symm hji)]
   have hVl' : (V.erase i).length = fuel := by rw [List.length_erase_of_mem hiV, hVl]; rfl
   have hc' := H.closed.set hir
   have hom : oi ∈ l := List.mem_of_getElem? hoi'
   have hfi : listed.getD i false = false := getD_both hun
   have hdown : ∀ j ∈ deps.getD i [], listed.getD j false = true := fun j hj => by
    obtain ⟨_, k, hk, hjk⟩ := ok.told i hilt j hj
    have hlk := ready_waits hir hk
    rcases hjk with rfl | hjk
    ·exact hlk
    ·exact H.down k hlk j hjk
   have hflag : (fun j => (listed.setIfInBounds i true).getD j false) = upd (fun j => listed.getD j false) i true := by
    funext j
    by_cases hji : j = i
    ·subst hji
     rw [upd_self]
     have : j < listed.size := by rw [H.closed.1]; simpa using hilt
     simp [this]
    ·rw [upd_ne _ _ hji, getD_set_ne false (Ne.symm hji)]
   -- the frame as the walk has it
   let A := putsG (fun j => decide (j < i)) (knownG c g) 0 l a0
   have hA : A = putsG (fun j => decide (j < i)) (knownG c g) 0 l a0 := rfl
   have h0 : putsG (fun j => decide (j < 0)) (knownG c g) 0 l a0 = a0 := by
    rw [putsG_congr l 0 a0 (fun j => decide (j < 0)) (fun _ => false) (knownG c g) g (fun j _ _ => ⟨by simp, fun h => by simp at h⟩)]
    have : ∀ (t : List Oper) k, putsG (fun _ => false) g k t a0 = a0 := by
     intro t
     induction t with
     | nil => intro k; rfl
     | cons o t ih => intro k; simp only [putsG, Bool.false_eq_true, if_false]; exact ih _
    exact this l 0
   have hGW := hw _ _ _ H.world H.down
   have hW := (GW.at (a0 := a0) ok.dsts l 0 (fun j => by simp) (by simp) (by rw [h0]; exact hGW)).1 i oi (Nat.zero_le _) hoi' hdown hfi
   rw [← hA] at hW
   have hsz : A.tmps.size = a.tmps.size := by rw [hA, H.act, putsG_size, putsG_size]
   have htm : ∀ t ∈ oi.looksAt l.toArray, a.tmps[t]? = A.tmps[t]? := fun t ht => by
    rw [hA, H.act]
    refine putsG_agree l 0 a0 a0 _ _ _ _ t rfl rfl (fun j oj hj hd => ?_)
    rw [Nat.zero_add]
    rcases ok.looks i j oi oj hoi' hj t hd ht with hjd | hjd
    rotate_left
    ·have hjl : j < l.length := (List.getElem?_eq_some_iff.1 hj).1
     have hij := (ok.told j hjl i hjd).1
     have hnl : listed.getD j false = false := by
      cases hl : listed.getD j false with
      | false => rfl
      | true => have := H.down j hl i hjd; rw [hfi] at this; cases this
     exact ⟨by show listed.getD j false = decide (j < i); rw [hnl, decide_eq_false (by omega)], fun h => by rw [hnl] at h; cases h⟩
    have hlj := hdown j hjd
    have hji := (ok.told i hilt j hjd).1
    refine ⟨by show listed.getD j false = decide (j < i); rw [hlj, decide_eq_true hji], fun _ => ?_⟩
    unfold knownG
    cases hc : c.getD j none with
    | none => rfl
    | some v => rw [H.vals j v hlj hc]; rfl
   have hex : execOp a.eval oi = execOp A.eval oi := exec_same oi (fun cs b => ok.sel i oi cs b hoi') a A htm
   have hwn : Region.wanted oi (yielded l.toArray a.tmps) = Region.wanted oi (yielded l.toArray A.tmps) := wanted_same oi a A htm
   have hadA : A.defers = a.defers := by rw [hA, H.act, putsG_defers, putsG_defers]
   -- what comes behind
   have next : ∀ (ds : List Deferred) (v : Value) (w' : World), onceC A oi (fun u w' => match c.getD i none with | some v => u = v ∧ Below w.heap.size w w' | none => U (upd (fun j => listed.getD j false) i true) (upd g i u) w') .normal ((Act.deferring A ds).put oi.dst v) w' →
     wpAnyIn F m P md l.toArray Q fuel (listed.setIfInBounds i true) ((Act.deferring a ds).put oi.dst v) w' := fun ds v w' hnx => by
    obtain ⟨hds, hR⟩ := hnx
    rw [put_defers] at hds
    have hds' : ds = a.defers := by rw [← hadA]; exact hds
    subst hds'
    have hg' : got oi ((Act.deferring A a.defers).put oi.dst v) = got oi (a.put oi.dst v) := got_put_same oi _ _ v hsz
    rw [hg'] at hR
    rw [deferring_self, ← put_got]
    refine ih (V.erase i) _ (upd g i (got oi (a.put oi.dst v))) _ w' hV' hVm' hVl' ⟨hc', ?_, ?_, ?_, ?_⟩
    ·rw [hflag, H.act]
     have := putsG_fire l 0 a0 i oi (got oi (a.put oi.dst v)) (fun j => listed.getD j false) g hoi' (by rw [Nat.zero_add]; exact hfi) (fun j oj hj hne => ok.dsts i j oi oj hoi' hj hne)
     rw [Nat.zero_add] at this
     rw [← H.act]
     rw [this, ← H.act]
    ·intro j v' hj hcj
     by_cases hji : j = i
     ·subst hji
      rw [upd_self]
      rw [hcj] at hR
      exact hR.1
     ·rw [getD_set_ne false (Ne.symm hji)] at hj
      rw [upd_ne _ _ hji]
      exact H.vals j v' hj hcj
    ·intro k hk j hj
     by_cases hki : k = i
     ·subst hki; exact getD_set_true (hdown j hj)
     ·rw [getD_set_ne false (Ne.symm hki)] at hk
      exact getD_set_true (H.down k hk j hj)
    ·rw [hflag]
     cases hc : c.getD i none with
     | none => rw [hc] at hR; exact hR
     | some v' =>
      rw [hc] at hR
      refine hi _ _ _ _ _ (fun j hj => ?_) (hg _ _ _ _ H.world hR.2)
      have hji : j ≠ i := fun e => by rw [e, hc] at hj; cases hj
      exact ⟨(upd_ne (fun j => listed.getD j false) true hji).symm, (upd_ne g _ hji).symm⟩
   unfold wpOpIn
   simp only [hoi]
   simp only [wpList] at hW
   rw [← hwn] at hW
   by_cases hwt : Region.wanted oi (yielded l.toArray a.tmps) = true
   ·rw [if_pos hwt] at hW
    rw [if_pos hwt]
    refine ⟨fun f _ => hF.fn f, ?_⟩
    rw [Oper.semAt_eq _ _ _ (hnd oi hom)]
    rcases hW with hW | ⟨_, hl⟩
    ·unfold Oper.wp at hW
     rw [← hex] at hW
     exact uponIn_frame hF hadA (fun ds v w' h => next ds v w' h) hW
    ·exact absurd hl (not_letsOut _)
   ·rw [if_neg hwt] at hW
    rw [if_neg hwt]
    refine ⟨fun f _ => hF.fn f, ?_⟩
    have := next A.defers undef w (by rw [deferring_self]; exact hW)
    rw [hadA, deferring_self] at this
    exact this
theorem wpIn_region_ghost (hF : Free F) (c : List (Option Value)) (deps : List (List Nat)) (U : (Nat → Bool) → (Nat → Value) → World → Prop) {id : Nat} {a : Act} {w : World} {l : List Oper} (hm : P.follows .mixedOrders = true) (hnd : noDefer l = true) (hB : ghostB .any l deps = true)
  (hg : ∀ f g w w', U f g w → Below w.heap.size w w' → U f g w')
  (hi : ∀ f f' g g' w, (∀ j, c.getD j none = none → f j = f' j ∧ g j = g' j) → U f g w → U f' g' w)
  (h0 : U (fun _ => false) (fun _ => undef) { w with drawn := w.drawn + 1 })
  (hw : ∀ f g w, U f g w → (∀ k, f k = true → ∀ j ∈ deps.getD k [], f j = true) → GW P l.toArray c deps U Q f g w 0 l a) : (Code.region id l.toArray true).wpIn F m P Q a w := by
 have ok := ghostOk hB
 refine wpIn_region_any hm ?_
 have hf0 : (fun j => (Array.replicate l.toArray.size false).getD j false) = fun _ => false := by funext j; exact getD_replicate_false _ _
 refine ghost_main hF ok (noDefer_spec hnd) hg hi hw l.toArray.size (List.range l.toArray.size) _ (fun _ => undef) a _ List.nodup_range (fun i => ?_) (by simp) ⟨⟨by simp, fun j oj _ hl => ?_⟩, ?_, fun j v hj => ?_, fun k hk => ?_, ?_⟩
 ·rw [List.mem_range]
  rcases Nat.lt_or_ge i l.toArray.size with h | h
  ·exact ⟨fun _ => getD_in (by simpa using h) (getD_replicate_false _ _), fun _ => h⟩
  ·refine ⟨fun h' => absurd h' (by omega), fun h' => ?_⟩
   simp only [List.size_toArray] at h
   simp [Array.getD, show ¬ i < l.length by omega] at h'
 ·rw [getD_replicate_false] at hl; cases hl
 ·rw [hf0]
  have : ∀ (t : List Oper) k, putsG (fun _ => false) (fun _ => undef) k t a = a := by
   intro t
   induction t with
   | nil => intro k; rfl
   | cons o t ih => intro k; simp only [putsG, Bool.false_eq_true, if_false]; exact ih _
  exact (this l 0).symm
 ·rw [getD_replicate_false] at hj; cases hj
 ·rw [getD_replicate_false] at hk; cases hk
 ·rw [hf0]; exact h0
theorem wp_region_ghost (c : List (Option Value)) (deps : List (List Nat)) (U : (Nat → Bool) → (Nat → Value) → World → Prop) {id : Nat} {a : Act} {w : World} {l : List Oper} (hm : P.follows .mixedOrders = true) (hnd : noDefer l = true) (hB : ghostB .any l deps = true)
  (hg : ∀ f g w w', U f g w → Below w.heap.size w w' → U f g w')
  (hi : ∀ f f' g g' w, (∀ j, c.getD j none = none → f j = f' j ∧ g j = g' j) → U f g w → U f' g' w)
  (h0 : U (fun _ => false) (fun _ => undef) { w with drawn := w.drawn + 1 })
  (hw : ∀ f g w, U f g w → (∀ k, f k = true → ∀ j ∈ deps.getD k [], f j = true) → GW P l.toArray c deps U Q f g w 0 l a) : (Code.region id l.toArray true).wp P Q a w :=
 wpIn_wide.1 (wpIn_region_ghost (m := 0) free_wide c deps U hm hnd hB hg hi h0 hw)
end
end Go.Proofs.Ytahjgllnfbejmaa.Late
namespace Go.Proofs.Ytahjgllnfbejmaa
open Go Go.RowKit
attribute [local go_sem] Oper.semAt_some Grows wide_fn
def kfN (p : Int × Int) : Ky := keyN p.1 p.2
def keysN (zs : List (Int × Int)) : List Ky := (zs.take 15).map kfN
theorem keysN_ok (zs : List (Int × Int)) : ∀ x ∈ keysN zs, KyOk x := fun x hx => by
 obtain ⟨p, _, rfl⟩ := List.mem_map.1 hx
 exact keyN_ok _ _
theorem keysN_len (zs : List (Int × Int)) : (keysN zs).length ≤ 15 := by
 unfold keysN
 rw [List.length_map, List.length_take]
 omega
def UKK (w : World) (base : Nat) (ov : Value) (l : List Ky) (x : Ky) (f : Nat → Bool) (g : Nat → Value) (w' : World) : Prop :=
 Below base w w' ∧ (f 12 = true → ∃ N, g 12 = .slice (some ⟨N, 0, none⟩) 1 1 ∧ (f 13 = false → KeysAt w' (g 12) [x])) ∧ (f 13 = false → KRow w' base ov l) ∧ (f 13 = true → KRow w' base (g 13) (l ++ [x])) ∧ (f 14 = true → f 13 = true → g 14 = g 13)
theorem keys_any (W : World) (v : Value) (zs : List (Int × Int)) (hr : RawAt W v zs) : Calls Try.prog 10 #[v] W fun e w' => ∃ v', e = .returned v' ∧ KRow w' W.heap.size v' (keysN zs) ∧ Below W.heap.size W w' := by
 have hmx : Try.prog.follows .mixedOrders = true := by kernel_rfl
 have HR := hid hr
 obtain ⟨a, cap, rfl, hnc, hcm, _⟩ := hr
 obtain ⟨n, hn⟩ : ∃ n, zs.length = n := ⟨_, rfl⟩
 rw [hn] at HR hnc ⊢
 have HN := hid hn
 have hlc := hid (Nat.le_trans hnc hcm)
 have HF := hid (show ∀ j, (j = 15 ∨ (j = n ∧ n ≤ 15)) → (zs.take j).map kfN = keysN zs from fun j h => by
  unfold keysN
  rcases h with rfl | ⟨rfl, h⟩
  ·rfl
  ·rw [List.take_of_length_le (by omega), List.take_of_length_le (by omega)])
 clear hnc hcm hn
 go_enter Try.func10, Try.ntmps10
 go_wp2_with fail
 go_loopw [3, 4] (fun ov i wr => ∃ k : Nat, i = .int .i64 (k : Int) ∧ k ≤ n ∧ k ≤ 15 ∧ KRow wr W.heap.size ov ((zs.take k).map kfN) ∧ Below W.heap.size W wr) (fun _ i _ => n - (intOf i).toNat)
 case atStart => exact ⟨0, rfl, by omega, by omega, KRow.nil _ _, Below.refl _ _⟩
 case round =>
  obtain ⟨k, rfl, hkn, hk15, hrow, hq⟩ := hrel
  obtain ⟨ov, hov⟩ : ∃ ov, ov = u3 := ⟨_, rfl⟩
  subst hov
  obtain ⟨w0, hw0⟩ : ∃ w0, w0 = wr := ⟨_, rfl⟩
  subst hw0
  have HQ := hid hq
  have HROW := hid hrow
  have HK := hid (And.intro hkn hk15)
  clear hq hrow
  by_cases hk : k < n ∧ k < 15
  ·have hknI : (k : Int) < (n : Int) := by omega
   have hk15I : (k : Int) < 15 := by omega
   have hk0 : (0 : Int) ≤ (k : Int) := by omega
   obtain ⟨p, hp⟩ : ∃ p, zs[k]? = some p := ⟨_, List.getElem?_eq_getElem (by have := HN.out; omega)⟩
   obtain ⟨a', cap', e', _, _, hall⟩ := HR.out
   injection e' with e1 e2 e3
   subst e1 e3
   obtain ⟨i1, i2, b, rfl, _⟩ := hall k p hp
   have HC := hid (fun (X : World) (hX : Below W.heap.size W X) => (show X.cell? (b.add (k * 2)) = some (.int .i64 p.1) ∧ X.cell? ⟨(b.add (k * 2)).block, (b.add (k * 2)).off + 1, none⟩ = some (.int .i64 p.2) from by
    obtain ⟨_, _, e', _, _, hall'⟩ := HR.out.later hX
    injection e' with e1 _ _
    subst e1
    obtain ⟨_, _, b', e'', h1, h2⟩ := hall' k p hp
    injection e'' with e''
    subst e''
    exact ⟨h1, h2⟩))
   have KY := hid (fun X => key10_any X p.1 p.2 i1 i2)
   have HNX := hid (show (zs.take (k + 1)).map kfN = (zs.take k).map kfN ++ [keyN p.1 p.2] by
    rw [List.take_add_one, List.map_append, hp]
    rfl)
   have HXO := hid (keyN_ok p.1 p.2)
   have HLL := hid (show ((zs.take k).map kfN).length = k by rw [List.length_map, List.length_take]; have := HN.out; omega)
   have hkk := hid hk
   clear hk hkn hk15 e2 hall hp
   generalize (zs.take k).map kfN = l at *
   generalize keyN p.1 p.2 = x at *
   generalize p.1 = p1 at *
   generalize p.2 = p2 at *
   go_wp2_with fail
   refine Late.wp_region_ghost [some ov, some (.slice (some b) n cap), some (.int .i64 (k : Int)), some (.pointer (some (b.add (k * 2)))), some (.pointer (some (b.add (k * 2)))), some (.int .i64 p1), some (.slice (some b) n cap), some (.int .i64 (k : Int)), some (.pointer (some (b.add (k * 2)))), some (.pointer (some ⟨(b.add (k * 2)).block, (b.add (k * 2)).off + 1, none⟩)), some (.int .i64 p2), some (.agg (kyC x)), none, none, none] [[], [], [], [1, 2], [1, 2, 3], [1, 2, 3, 4], [], [], [6, 7], [6, 7, 8], [6, 7, 8, 9], [1, 2, 3, 4, 5, 6, 7, 8, 9, 10], [1, 2, 3, 4, 5, 6, 7, 8, 9, 10, 11], [0, 1, 2, 3, 4, 5, 6, 7, 8, 9, 10, 11, 12], [0, 1, 2, 3, 4, 5, 6, 7, 8, 9, 10, 11, 12, 13]] (UKK w0 W.heap.size ov l x)
    (by kernel_rfl) (by kernel_rfl) (by kernel_rfl) ?_ ?_ ?_ ?_
   ·rintro f g wa wb ⟨h1, h2, h3, h4, h5⟩ hb
    exact ⟨h1.trans (hb.mono (Nat.le_trans HQ.out.size h1.size)), fun h => let ⟨N, e, hN⟩ := h2 h; ⟨N, e, fun h' => (hN h').later hb⟩, fun h => (h3 h).later hb, fun h => (h4 h).later hb, h5⟩
   ·rintro f f' g g' wa h ⟨h1, h2, h3, h4, h5⟩
    have a12 := h 12 rfl
    have a13 := h 13 rfl
    have a14 := h 14 rfl
    refine ⟨h1, fun e => ?_, fun e => h3 (a13.1.trans e), fun e => ?_, fun e e' => ?_⟩
    ·obtain ⟨N, e1, e2⟩ := h2 (a12.1.trans e)
     exact ⟨N, a12.2.symm.trans e1, fun h' => by rw [← a12.2]; exact e2 (a13.1.trans h')⟩
    ·rw [← a13.2]; exact h4 (a13.1.trans e)
    ·rw [← a14.2, ← a13.2]; exact h5 (a14.1.trans e) (a13.1.trans e')
   ·exact ⟨(Below.refl _ _).drew, by simp, fun _ => HROW.out.later (Below.refl _ _).drew, by simp, by simp⟩
   rintro f g y hU0 Dn
   have hU := hid hU0
   have q1 := HQ.out.trans (hU0.1.mono (Nat.le_refl _))
   have kc0 := (HC.out y q1).1
   have kc1 := (HC.out y q1).2
   have QY := hid q1
   clear hU0 q1
   refine GW.known _ rfl (fun hd hf => ?_) ?_
   ·go_wp2
    exact ⟨rfl, rfl, Below.refl _ _⟩
   simp only [Act.put, sT, sS, sZ]
   refine GW.known _ rfl (fun hd hf => ?_) ?_
   ·go_wp2
    exact ⟨rfl, rfl, Below.refl _ _⟩
   simp only [Act.put, sT, sS, sZ]
   refine GW.known _ rfl (fun hd hf => ?_) ?_
   ·go_wp2
    exact ⟨rfl, rfl, Below.refl _ _⟩
   simp only [Act.put, sT, sS, sZ]
   refine GW.known _ rfl (fun hd hf => ?_) ?_
   ·go_wp2
    exact ⟨rfl, rfl, Below.refl _ _⟩
   simp only [Act.put, sT, sS, sZ]
   refine GW.known _ rfl (fun hd hf => ?_) ?_
   ·go_wp2
    exact ⟨rfl, rfl, Below.refl _ _⟩
   simp only [Act.put, sT, sS, sZ]
   refine GW.known _ rfl (fun hd hf => ?_) ?_
   ·go_wp2
    exact ⟨rfl, rfl, Below.refl _ _⟩
   simp only [Act.put, sT, sS, sZ]
   refine GW.known _ rfl (fun hd hf => ?_) ?_
   ·go_wp2
    exact ⟨rfl, rfl, Below.refl _ _⟩
   simp only [Act.put, sT, sS, sZ]
   refine GW.known _ rfl (fun hd hf => ?_) ?_
   ·go_wp2
    exact ⟨rfl, rfl, Below.refl _ _⟩
   simp only [Act.put, sT, sS, sZ]
   refine GW.known _ rfl (fun hd hf => ?_) ?_
   ·go_wp2
    exact ⟨rfl, rfl, Below.refl _ _⟩
   simp only [Act.put, sT, sS, sZ]
   refine GW.known _ rfl (fun hd hf => ?_) ?_
   ·go_wp2
    exact ⟨rfl, rfl, Below.refl _ _⟩
   simp only [Act.put, sT, sS, sZ]
   refine GW.known _ rfl (fun hd hf => ?_) ?_
   ·go_wp2
    exact ⟨rfl, rfl, Below.refl _ _⟩
   simp only [Act.put, sT, sS, sZ]
   refine GW.known _ rfl (fun hd hf => ?_) ?_
   ·go_wp2_with fail
    refine (KY.out _).mono ?_
    rintro e u ⟨rfl, hb⟩
    go_wp2
    exact ⟨rfl, rfl, hb⟩
   simp only [Act.put, sT, sS, sZ]
   refine GW.open rfl (fun hd hf => ?_) ?_
   ·have f13 : f 13 = false := by
     cases h : f 13 with
     | false => rfl
     | true => have := Dn 13 h 12 (by decide); rw [hf] at this; cases this
    have f14 : f 14 = false := by
     cases h : f 14 with
     | false => rfl
     | true => have := Dn 14 h 12 (by decide); rw [hf] at this; cases this
    have hm := keys_made y [x] (by intro z hz; simp at hz; subst hz; exact HXO.out) (by simp)
    have qa := newA y (.cells (flatKy [x]).toArray 31)
    have K := hid (show UKK w0 W.heap.size ov l x (upd f 12 true) (upd g 12 (.slice (some ⟨y.heap.size, 0, none⟩) 1 1)) (y.alloc (.cells (flatKy [x]).toArray 31)) from
     ⟨hU.out.1.trans (qa.mono QY.out.size), fun _ => ⟨y.heap.size, upd_self g 12 _, fun _ => by rw [upd_self]; exact hm⟩, fun _ => (hU.out.2.2.1 f13).later qa, fun h => absurd ((upd_ne f true (show (13 : Nat) ≠ 12 by decide)).symm.trans h) (by rw [f13]; simp), fun h => absurd ((upd_ne f true (show (14 : Nat) ≠ 12 by decide)).symm.trans h) (by rw [f14]; simp)⟩)
    clear hm qa
    refine wpList_build_k1 rfl (.tmp 26) rfl x rfl ?_
    go_wp2
    exact ⟨rfl, K.out⟩
   simp only [Act.put, sT, sS, sZ]
   refine GW.open rfl (fun hd hf => ?_) ?_
   ·have f14 : f 14 = false := by
     cases h : f 14 with
     | false => rfl
     | true => have := Dn 14 h 13 (by decide); rw [hf] at this; cases this
    obtain ⟨N, eN, hN⟩ := hU.out.2.1 (hd 12 (by decide))
    obtain ⟨v', w', happ, hrow', _, hbel⟩ := append_keys y W.heap.size ov l (hU.out.2.2.1 hf) QY.out.size (g 12) [x] (hN hf) (by have := HLL.out; have := HK.out; simp; omega)
    have K := hid (show UKK w0 W.heap.size ov l x (upd f 13 true) (upd g 13 v') w' from
     ⟨hU.out.1.trans hbel, fun _ => ⟨N, (upd_ne g _ (show (12 : Nat) ≠ 13 by decide)).trans eN, fun h => absurd ((upd_self f 13 true).symm.trans h) (by simp)⟩, fun h => absurd ((upd_self f 13 true).symm.trans h) (by simp), fun _ => by rw [upd_self]; exact hrow', fun h => absurd ((upd_ne f true (show (14 : Nat) ≠ 13 by decide)).symm.trans h) (by rw [f14]; simp)⟩)
    clear hrow' hbel hN eN
    refine wpList_append_runK rfl (.tmp 15) (.tmp 27) 22 rfl _ _ _ rfl rfl happ ?_
    go_wp2
    exact ⟨rfl, K.out⟩
   simp only [Act.put, sT, sS, sZ]
   refine GW.open rfl (fun hd hf => ?_) ?_
   ·have e13 := hd 13 (by decide)
    have K := hid (show UKK w0 W.heap.size ov l x (upd f 14 true) (upd g 14 (g 13)) y from
     ⟨hU.out.1, fun h => let ⟨N, e, hN⟩ := hU.out.2.1 (hd 12 (by decide)); ⟨N, (upd_ne g _ (show (12 : Nat) ≠ 14 by decide)).trans e, fun h' => by rw [upd_ne g _ (show (12 : Nat) ≠ 14 by decide)]; exact hN ((upd_ne f true (show (13 : Nat) ≠ 14 by decide)).symm.trans h')⟩, fun h => hU.out.2.2.1 ((upd_ne f true (show (13 : Nat) ≠ 14 by decide)).symm.trans h), fun h => by rw [upd_ne g _ (show (13 : Nat) ≠ 14 by decide)]; exact hU.out.2.2.2.1 e13, fun _ _ => by rw [upd_self, upd_ne g _ (show (13 : Nat) ≠ 14 by decide)]⟩)
    go_wp2
    exact ⟨rfl, K.out⟩
   simp only [Act.put, sT, sS, sZ]
   refine GW.nil (fun hall => ?_)
   have e13 := hall 13 (by omega)
   have O13 := hid (hU.out.2.2.2.1 e13)
   have E14 := hU.out.2.2.2.2 (hall 14 (by omega)) e13
   rw [E14]
   have QF := hid QY.out
   clear hU Dn hall E14 e13 kc0 kc1
   generalize g 13 = v9 at *
   generalize g 12 = v8 at *
   go_wp2
   go_roundw
   case rel => exact ⟨k + 1, by simp, by have := hkk.out; omega, by have := hkk.out; omega, by rw [HNX.out]; exact O13.out, QF.out⟩
   case measure => have := hkk.out; simp [intOf]; omega
  ·by_cases h1 : k < n
   ·obtain rfl : k = 15 := by have := HK.out; omega
    have hI : (15 : Int) < (n : Int) := by omega
    have R := hid (show KRow w0 W.heap.size ov (keysN zs) from by have h := HROW.out; rw [HF.out 15 (.inl rfl)] at h; exact h)
    go_wp2_with fail
    go_ret
    exact ⟨_, rfl, R.out, HQ.out⟩
   ·obtain rfl : k = n := by have := HK.out; omega
    have hnn : ¬ (k : Int) < (k : Int) := by omega
    have R := hid (show KRow w0 W.heap.size ov (keysN zs) from by have h := HROW.out; rw [HF.out k (.inr ⟨rfl, HK.out.2⟩)] at h; exact h)
    go_wp2_with fail
    go_ret
    exact ⟨_, rfl, R.out, HQ.out⟩
theorem pre_eq {a b : Nat} (ha : a < 256 ^ 20) (hb : b < 256 ^ 20) : ∀ k : Nat, k ≤ 20 → (∀ j, j < k → adB a j = adB b j) → a / 256 ^ (20 - k) = b / 256 ^ (20 - k)
 | 0, _, _ => by rw [Nat.sub_zero, Nat.div_eq_of_lt ha, Nat.div_eq_of_lt hb]
 | k + 1, hk, h => by
  have ih := pre_eq ha hb k (by omega) (fun j hj => h j (by omega))
  have e := h k (by omega)
  unfold adB at e
  rw [show 20 - k = (19 - k) + 1 by omega, Nat.pow_succ, ← Nat.div_div_eq_div_mul, ← Nat.div_div_eq_div_mul] at ih
  rw [show 20 - (k + 1) = 19 - k by omega]
  generalize a / 256 ^ (19 - k) = x at *
  generalize b / 256 ^ (19 - k) = y at *
  omega
theorem pre_lt {a b : Nat} (ha : a < 256 ^ 20) (hb : b < 256 ^ 20) (k : Nat) (hk : k < 20) (h : ∀ j, j < k → adB a j = adB b j) (hl : adB a k < adB b k) : a < b := by
 have ih := pre_eq ha hb k (by omega) h
 unfold adB at hl
 rw [show 20 - k = (19 - k) + 1 by omega, Nat.pow_succ, ← Nat.div_div_eq_div_mul, ← Nat.div_div_eq_div_mul] at ih
 have hx : a / 256 ^ (19 - k) < b / 256 ^ (19 - k) := by
  generalize a / 256 ^ (19 - k) = x at *
  generalize b / 256 ^ (19 - k) = y at *
  omega
 rcases Nat.lt_or_ge a b with h | h
 ·exact h
 ·have := Nat.div_le_div_right (c := 256 ^ (19 - k)) h
  omega
theorem pre_same {a b : Nat} (ha : a < 256 ^ 20) (hb : b < 256 ^ 20) (h : ∀ j, j < 20 → adB a j = adB b j) : a = b := by
 have := pre_eq ha hb 20 (by omega) h
 simpa using this
theorem kcmp_first {a b : Ky} (ha : KyOk a) (hb : KyOk b) (k : Nat) (hk : k < 20) (h : ∀ j, j < k → adB a.at_ j = adB b.at_ j) (hl : adB a.at_ k < adB b.at_ k) : kcmp a b = -1 ∧ kcmp b a = 1 := by
 have h1 := pre_lt ha.at_ hb.at_ k hk h hl
 unfold kcmp acmp
 rw [if_pos h1, if_neg (by omega : ¬ b.at_ < a.at_), if_pos h1]
 exact ⟨by rw [if_neg (by decide)], by rw [if_neg (by decide)]⟩
theorem rkorder_any (W : World) (a b : Ky) (ha : KyOk a) (hb : KyOk b) :
  Calls Try.prog 9 #[.agg (kyC a), .agg (kyC b)] W fun e w' => e = .returned (.int .i64 (kcmp a b)) ∧ Below W.heap.size W w' := by
 have hmx : Try.prog.follows .mixedOrders = true := by kernel_rfl
 have K1 := (Has.new W 31 (kyC a)).alloc (.cells (kyC b) 31)
 have K2 := Has.new (W.alloc (.cells (kyC a) 31)) 31 (kyC b)
 simp only [World.size_alloc] at K2
 have q0 := (newA W (.cells (kyC a) 31)).alloc (by simp) (.cells (kyC b) 31)
 obtain ⟨V, hV⟩ : ∃ V, (W.alloc (.cells (kyC a) 31)).alloc (.cells (kyC b) 31) = V := ⟨_, rfl⟩
 rw [hV] at K1 K2 q0
 have HW := hid (refCmp_ret a.key b.key ha.key hb.key)
 have HA := hid (fun (X : World) (hX : Below V.heap.size V X) => (K1.later hX).kyAd)
 have HB := hid (fun (X : World) (hX : Below V.heap.size V X) => (K2.later hX).kyAd)
 have CA := hid (fun (X : World) (hX : Below V.heap.size V X) => (K1.later hX).ky)
 have CB := hid (fun (X : World) (hX : Below V.heap.size V X) => (K2.later hX).ky)
 have Q := hid q0
 have FL := hid (fun k hk h hl => (kcmp_first ha hb k hk h hl).1)
 have FG := hid (fun k hk h hl => (kcmp_first hb ha k hk h hl).2)
 have FE := hid (fun h => pre_same ha.at_ hb.at_ h)
 obtain ⟨kv, hkv⟩ : ∃ kv, kcmp a b = kv := ⟨_, rfl⟩
 rw [hkv] at FL FG ⊢
 have HKV := hid hkv
 unfold wv at HW
 generalize kyC a = cs at *
 generalize kyC b = ds at *
 clear q0 K1 K2 ha hb hkv
 obtain ⟨na, sa, ka⟩ := a
 obtain ⟨nb, sb, kb⟩ := b
 simp only at CA CB HA HB HW FL FG FE
 go_enter Try.func9, Try.ntmps9
 go_wp2_with fail
 clear hV
 go_loopw [5] (fun i wr => ∃ k : Nat, i = .int .i64 (k : Int) ∧ k ≤ 20 ∧ (∀ j, j < k → adB na j = adB nb j) ∧ Below V.heap.size V wr) (fun i _ => 20 - (intOf i).toNat)
 case atStart => exact ⟨0, rfl, by omega, fun j hj => by omega, Below.refl _ _⟩
 case round =>
  obtain ⟨k, rfl, hk, hpre, hq⟩ := hrel
  have HP := hid hpre
  have HQ := hid hq
  have QW := hid (Q.out.trans (hq.mono Q.out.size))
  clear hpre hq
  by_cases hk20 : k < 20
  ·have hkI : (k : Int) < 20 := by omega
   have hk0 : (0 : Int) ≤ (k : Int) := by omega
   have hab : adB na k < 256 := Nat.mod_lt _ (by decide)
   have hbb : adB nb k < 256 := Nat.mod_lt _ (by decide)
   have ca : ∀ z : Ext wr, z.w.cell? ⟨W.heap.size, k, none⟩ = some (.int .u8 ((adB na k : Nat) : Int)) := fun z => by
    have h := HA.out z.w (HQ.out.trans (z.below.mono HQ.out.size)) k hk20
    rwa [add_lit, Nat.zero_add] at h
   have cb : ∀ z : Ext wr, z.w.cell? ⟨W.heap.size + 1, k, none⟩ = some (.int .u8 ((adB nb k : Nat) : Int)) := fun z => by
    have h := HB.out z.w (HQ.out.trans (z.below.mono HQ.out.size)) k hk20
    rwa [add_lit, Nat.zero_add] at h
   have FLk := hid (fun h => FL.out k hk20 HP.out h)
   have FGk := hid (fun h => FG.out k hk20 (fun j hj => (HP.out j hj).symm) h)
   have HN := hid (fun (h : adB na k = adB nb k) => (show ∀ j, j < k + 1 → adB na j = adB nb j from fun j hj => by
    rcases Nat.lt_or_ge j k with h1 | h1
    ·exact HP.out j h1
    ·obtain rfl : j = k := by omega
     exact h))
   have HK := hid hk20
   clear hk
   generalize adB na k = x at *
   generalize adB nb k = y at *
   go_wp2_with fail
   refine wp_region_quietL (C := Grows wr) hmx (by kernel_rfl) (grows_refl wr) ?_
   repeat (go_big_quiet_step (fail))
   refine wpQuiet_nil ?_
   rintro _ ⟨z, rfl⟩
   have QZ := hid (QW.out.trans (z.below.mono QW.out.size))
   have HQZ := hid (HQ.out.trans (z.below.mono HQ.out.size))
   by_cases hlt : x < y
   ·have hltI : (x : Int) < (y : Int) := by omega
    have e := FLk.out hlt
    go_wp2_with fail
    go_ret
    exact ⟨by rw [e]; rfl, QZ.out⟩
   ·have hltI : ¬ (x : Int) < (y : Int) := by omega
    have ca2 : ∀ u : Ext z.w, u.w.cell? ⟨W.heap.size, k, none⟩ = some (.int .u8 (x : Int)) := fun u => ca ⟨u.1, z.2.trans (u.2.mono z.2.size)⟩
    have cb2 : ∀ u : Ext z.w, u.w.cell? ⟨W.heap.size + 1, k, none⟩ = some (.int .u8 (y : Int)) := fun u => cb ⟨u.1, z.2.trans (u.2.mono z.2.size)⟩
    clear ca cb
    go_wp2_with fail
    refine wp_region_quietL (C := Grows z.w) hmx (by kernel_rfl) (grows_refl z.w) ?_
    repeat (go_big_quiet_step (fail))
    refine wpQuiet_nil ?_
    rintro _ ⟨u, rfl⟩
    have QU := hid (QZ.out.trans (u.below.mono QZ.out.size))
    have HQU := hid (HQZ.out.trans (u.below.mono HQZ.out.size))
    by_cases hgt : y < x
    ·have hgtI : (y : Int) < (x : Int) := by omega
     have e := FGk.out hgt
     go_wp2_with fail
     go_ret
     exact ⟨by rw [e]; rfl, QU.out⟩
    ·have hgtI : ¬ (y : Int) < (x : Int) := by omega
     have hxy : x = y := by omega
     have HNN := hid (HN.out hxy)
     clear hxy
     go_wp2_with fail
     go_roundw
     case rel => exact ⟨k + 1, by simp, by have := HK.out; omega, HNN.out, HQU.out⟩
     case measure => have := HK.out; simp [intOf]; omega
  ·obtain rfl : k = 20 := by omega
   have h20 : ¬ ((20 : Nat) : Int) < 20 := by omega
   have hn := FE.out HP.out
   subst hn
   have hkv := HKV.out
   unfold kcmp at hkv
   rw [if_pos ((acmp_zero _ _).2 rfl)] at hkv
   simp only at hkv
   have HK := hid hkv
   obtain ⟨a0, a1, a2, a3, a4⟩ := CA.out wr HQ.out
   obtain ⟨b0, b1, b2, b3, b4⟩ := CB.out wr HQ.out
   clear hkv hk20 hk
   cases sa <;> cases sb
   ·go_wp2_with fail
    refine (HW.out _).mono ?_
    rintro e w1 ⟨rfl, hb1⟩
    have QF := hid (QW.out.trans (hb1.mono QW.out.size))
    go_wp2_with fail
    go_ret
    exact ⟨by rw [← HK.out]; rfl, QF.out⟩
   ·go_wp2_with fail
    go_ret
    exact ⟨by rw [← HK.out]; rfl, QW.out⟩
   ·go_wp2_with fail
    go_ret
    exact ⟨by rw [← HK.out]; rfl, QW.out⟩
   ·go_wp2_with fail
    refine (HW.out _).mono ?_
    rintro e w1 ⟨rfl, hb1⟩
    have QF := hid (QW.out.trans (hb1.mono QW.out.size))
    go_wp2_with fail
    go_ret
    exact ⟨by rw [← HK.out]; rfl, QF.out⟩
theorem rmay_any (W : World) (a : Ky) (ha : KyOk a) : Calls Try.prog 30 #[.agg (kyC a)] W fun e w' => e = .returned (.bool (a.slot || decide (a.key = 0))) ∧ Below W.heap.size W w' := by
 have K1 := Has.new W 31 (kyC a)
 have q0 := newA W (.cells (kyC a) 31)
 obtain ⟨V, hV⟩ : ∃ V, W.alloc (.cells (kyC a) 31) = V := ⟨_, rfl⟩
 rw [hV] at K1 q0
 obtain ⟨a0, a1, a2, a3, a4⟩ := K1.ky
 have Q := hid q0
 have hz := eqv_k a.key 0 ha.key (by unfold W256; omega)
 have l0 : lim 0 0 = 0 := by kernel_rfl
 have l1 : lim 0 1 = 0 := by kernel_rfl
 have l2 : lim 0 2 = 0 := by kernel_rfl
 have l3 : lim 0 3 = 0 := by kernel_rfl
 rw [l0, l1, l2, l3] at hz
 have HZ := hid hz
 have E := fun w => eq4k 9998 (lim a.key 0) (lim a.key 1) (lim a.key 2) (lim a.key 3) 0 0 0 0 w
 simp only [Nat.reduceAdd] at E
 generalize kyC a = cs at *
 clear K1 q0 ha hz l0 l1 l2 l3
 obtain ⟨na, sa, ka⟩ := a
 simp only at a0 a1 a2 a3 a4 E HZ ⊢
 generalize lim ka 0 = l0 at *
 generalize lim ka 1 = l1 at *
 generalize lim ka 2 = l2 at *
 generalize lim ka 3 = l3 at *
 obtain ⟨r, hr⟩ : ∃ r, decide (ka = 0) = r := ⟨_, rfl⟩
 rw [hr] at HZ ⊢
 clear hr
 obtain ⟨q, hq⟩ : ∃ q, (l0 == 0 && l1 == 0 && l2 == 0 && l3 == 0) = q := ⟨_, rfl⟩
 rw [hq] at HZ E
 have HR := hid HZ.out
 cases sa
 ·go_enter Try.func30, Try.ntmps30
  go_wp2_with fail
  go_ret
  exact ⟨by rw [Bool.false_or, ← HR.out]; rfl, Q.out⟩
 ·go_enter Try.func30, Try.ntmps30
  go_wp2_with fail
  go_ret
  exact ⟨rfl, Q.out⟩
end Go.Proofs.Ytahjgllnfbejmaa
namespace Go.Proofs.Ytahjgllnfbejmaa
open Go Go.RowKit
attribute [local go_sem] Oper.semAt_some Grows wide_fn
theorem KRow.lower {W : World} {base low : Nat} {v : Value} {l : List Ky} (h : KRow W base v l) (hl : low ≤ base) : KRow W low v l := by
 unfold KRow World.ownsRow at h ⊢
 refine ⟨h.1, ?_⟩
 rcases h.2 with h | ⟨g, cap, cur, e, hb, hr⟩
 ·exact .inl h
 ·exact .inr ⟨g, cap, cur, e, Nat.le_trans hl hb, hr⟩
theorem push_key (A : World) (base : Nat) (v : Value) (l : List Ky) (h : KRow A base v l) (hb : base ≤ A.heap.size) (hl : l.length ≤ 99999) (y : Ky) (hy : KyOk y) :
  ∃ v' w', (Builtin.append_ #[22, 22] 22 #[v, .slice (some ⟨A.heap.size, 0, none⟩) 1 1]).run Try.prog (A.alloc (.cells (flatKy [y]).toArray 31)) = .ok v' w' ∧ KRow w' base v' (l ++ [y]) ∧ Below base A w' := by
 have hm := keys_made A [y] (by intro z hz; simp at hz; subst hz; exact hy) (by simp)
 have qa := newA A (.cells (flatKy [y]).toArray 31)
 obtain ⟨v', w', h1, h2, _, h4⟩ := append_keys _ base v l (h.later qa) (Nat.le_trans hb qa.size) _ [y] hm (by simp; omega)
 exact ⟨v', w', h1, h2, (qa.mono hb).trans h4⟩
def PutJ (x : Ky) (l : List Ky) (k : Nat) (now : List Ky) (d : Bool) : Prop := insK x l = now ++ (if d = true then l.drop k else insK x (l.drop k))
theorem rput_any (W : World) (sv : Value) (l : List Ky) (x : Ky) (hxo : KyOk x) (hs : KeysAt W sv l) (hl : l.length ≤ 9999) :
  Calls Try.prog 52 #[sv, .agg (kyC x)] W fun e w' => ∃ v', e = .returned v' ∧ KRow w' W.heap.size v' (insK x l) ∧ Below W.heap.size W w' := by
 have hmx : Try.prog.follows .mixedOrders = true := by kernel_rfl
 have hB := Has.new W 31 (kyC x)
 have hq0 := newA W (.cells (kyC x) 31)
 obtain ⟨V, hV⟩ : ∃ V, W.alloc (.cells (kyC x) 31) = V := ⟨_, rfl⟩
 rw [hV] at hB hq0
 obtain ⟨a, cap, rfl, hnc, hcm⟩ := hs.shape
 have HS := hid (hs.later hq0)
 have HB := hid hB
 have Q := hid hq0
 obtain ⟨n, hn⟩ : ∃ n, l.length = n := ⟨_, rfl⟩
 rw [hn] at HS hnc hl ⊢
 have HN := hid hn
 have hlc := hid (And.intro hl (Nat.le_trans hnc hcm))
 have HXO := hid hxo
 have HPI := hid (show ∀ k now d, PutJ x l k now d → insK x l = now ++ (if d = true then l.drop k else insK x (l.drop k)) from fun _ _ _ h => h)
 clear hB hq0 hs hnc hcm hn hl hxo
 go_enter Try.func52, Try.ntmps52
 go_wp2_with fail
 clear hV
 go_loopw [5, 6, 7] (fun ov dn i wr => ∃ (k : Nat) (now : List Ky) (d : Bool), dn = .bool d ∧ i = .int .i64 (k : Int) ∧ k ≤ n ∧ now.length ≤ k + 1 ∧ (d = false → now.length ≤ k) ∧ KRow wr V.heap.size ov now ∧ PutJ x l k now d ∧ Below V.heap.size V wr) (fun _ _ i _ => n - (intOf i).toNat)
 case atStart => exact ⟨0, [], false, rfl, rfl, by omega, by simp, by simp, KRow.nil _ _, rfl, Below.refl _ _⟩
 case round =>
  obtain ⟨k, now, d, rfl, rfl, hkn, hlen, hlf, hrow, hpi, hq⟩ := hrel
  obtain ⟨ov, hov⟩ : ∃ ov, ov = u5 := ⟨_, rfl⟩
  subst hov
  obtain ⟨w0, hw0⟩ : ∃ w0, w0 = wr := ⟨_, rfl⟩
  subst hw0
  have HQ := hid hq
  have HROW := hid hrow
  have HK := hid (And.intro hkn hlen)
  have HLF := hid hlf
  have HP := hid hpi
  have QW := hid (Q.out.trans (hq.mono Q.out.size))
  clear hq hrow hpi hlen hlf
  by_cases hk : k < n
  ·have hknI : (k : Int) < (n : Int) := by omega
   have hk0 : (0 : Int) ≤ (k : Int) := by omega
   have hkb : (k : Int) ≤ 9223372036854775806 := by have := hlc.out; omega
   obtain ⟨y, hy⟩ : ∃ y, l[k]? = some y := ⟨_, List.getElem?_eq_getElem (by have := HN.out; omega)⟩
   obtain ⟨b, rfl, ay⟩ := (HS.out.later HQ.out).at hy
   have HYA := hid (fun (X : World) (hX : Below V.heap.size V X) => (show KyIn X (b.add (k * 25)) y from by
    obtain ⟨b', e, h⟩ := (HS.out.later hX).at hy
    injection e with e
    subst e
    exact h))
   have HYO := hid (HS.out.ok hy)
   have HD := hid (show l.drop k = y :: l.drop (k + 1) by
    obtain ⟨h1, h2⟩ := List.getElem?_eq_some_iff.1 hy
    rw [List.drop_eq_getElem_cons h1, h2])
   have LX := hid (show ∀ z : World, Grows w0 z → (loadVar 31 ⟨W.heap.size, 0, none⟩).run Try.prog z = .ok (.agg (kyC x)) z from fun z hz => by obtain ⟨q, rfl⟩ := hz; exact ((HB.out.later HQ.out).later q.below).kyLoad)
   have LY := hid (show ∀ z : World, Grows w0 z → (loadVar 31 (b.add (k * 25))).run Try.prog z = .ok (.agg (kyC y)) z from fun z hz => by obtain ⟨q, rfl⟩ := hz; exact (ay.later q.below).load)
   have K3 := hid (fun z : Ext w0 => Ext.atK (rkorder_any z.w x y HXO.out (HS.out.ok hy)))
   have hc : kcmp x y = -1 ∨ kcmp x y = 0 ∨ kcmp x y = 1 := by
    rcases kcmp_tri x y with ⟨_, e⟩ | ⟨_, e⟩ | ⟨_, e⟩
    ·exact .inl e
    ·exact .inr (.inl e)
    ·exact .inr (.inr e)
   have HI := hid (show ∀ c, kcmp x y = c → insK x (y :: l.drop (k + 1)) = if c < 0 then x :: y :: l.drop (k + 1) else if c = 0 then y :: l.drop (k + 1) else y :: insK x (l.drop (k + 1)) from fun c h => by subst h; rfl)
   have HKK := hid hk
   clear hk hkn ay hy
   obtain ⟨c, hcc⟩ : ∃ c, kcmp x y = c := ⟨_, rfl⟩
   replace HI := hid (HI.out c hcc)
   rw [hcc] at K3 hc
   clear hcc
   rcases hc with rfl | rfl | rfl <;> cases d
   ·go_wp2_with fail
    refine wp_region_quietL (C := Grows w0) hmx (by kernel_rfl) (grows_refl w0) ?_
    repeat (first | (with_reducible refine wpQuiet_load rfl 31 _ rfl _ rfl _ LX.out ?_; simp only [Act.put, sT, sS, sZ]) | (with_reducible refine wpQuiet_load rfl 31 _ rfl _ rfl _ LY.out ?_; simp only [Act.put, sT, sS, sZ]) | (go_big_quiet_step (first | (with_reducible exact K3.out _))))
    refine wpQuiet_nil ?_
    rintro _ ⟨z, rfl⟩
    have HE := hid (HQ.out.trans (z.below.mono HQ.out.size))
    have R0 := hid (HROW.out.later z.below)
    obtain ⟨v1, A1, r1, k1, b1⟩ := push_key z.w V.heap.size ov now R0.out HE.out.size (by have := hlc.out; have := HK.out; omega) x HXO.out
    have HE1 := hid (HE.out.trans b1)
    obtain ⟨v2, A2, r2, k2, b2⟩ := push_key A1 V.heap.size v1 (now ++ [x]) k1 HE1.out.size (by have := hlc.out; have := HK.out; simp; omega) y HYO.out
    have L1 := hid (show (loadVar 31 ⟨W.heap.size, 0, none⟩).run Try.prog z.w = .ok (.agg (kyC x)) z.w from (HB.out.later HE.out).kyLoad)
    have L2 := hid (show (loadVar 31 (b.add (k * 25))).run Try.prog A1 = .ok (.agg (kyC y)) A1 from KyIn.load (HYA.out A1 HE1.out))
    have HE2 := hid (HE1.out.trans b2)
    have R1 := hid r1
    have R2 := hid r2
    have KF := hid k2
    clear r1 r2 k1 k2 b1 b2 LX LY K3
    go_wp2_with (first | (refine wpList_load_known rfl _ (.tmp 3) rfl _ rfl _ L1.out ?_) | (refine wpList_load_known rfl _ (.tmp 36) rfl _ rfl _ L2.out ?_) | (refine wpList_build_k1 rfl (.tmp 30) rfl x rfl ?_) | (refine wpList_build_k1 rfl (.tmp 37) rfl y rfl ?_) | (at_builtin; refine wpList_append_runK rfl (.tmp 29) (.tmp 31) 22 rfl _ _ _ rfl rfl R1.out ?_) | (at_builtin; refine wpList_append_runK rfl (.tmp 33) (.tmp 38) 22 rfl _ _ _ rfl rfl R2.out ?_))
    go_roundw
    case rel => exact ⟨k + 1, now ++ [x] ++ [y], true, rfl, by simp, by have := HKK.out; omega, by have := HLF.out (by trivial); simp; omega, by simp, KF.out, by
     have h := HPI.out _ _ _ HP.out
     rw [if_neg (by decide), HD.out, HI.out, if_pos (by decide)] at h
     unfold PutJ
     rw [h, if_pos rfl]
     simp, HE2.out⟩
    case measure => have := HKK.out; simp [intOf]; omega
   ·go_wp2_with fail
    refine wp_region_quietL (C := Grows w0) hmx (by kernel_rfl) (grows_refl w0) ?_
    repeat (first | (with_reducible refine wpQuiet_load rfl 31 _ rfl _ rfl _ LX.out ?_; simp only [Act.put, sT, sS, sZ]) | (with_reducible refine wpQuiet_load rfl 31 _ rfl _ rfl _ LY.out ?_; simp only [Act.put, sT, sS, sZ]) | (go_big_quiet_step (first | (with_reducible exact K3.out _))))
    refine wpQuiet_nil ?_
    rintro _ ⟨z, rfl⟩
    have HE := hid (HQ.out.trans (z.below.mono HQ.out.size))
    have R0 := hid (HROW.out.later z.below)
    obtain ⟨v2, A2, r2, k2, b2⟩ := push_key z.w V.heap.size ov now R0.out HE.out.size (by have := hlc.out; have := HK.out; omega) y HYO.out
    have L2 := hid (show (loadVar 31 (b.add (k * 25))).run Try.prog z.w = .ok (.agg (kyC y)) z.w from KyIn.load (HYA.out z.w HE.out))
    have HE2 := hid (HE.out.trans b2)
    have R2 := hid r2
    have KF := hid k2
    clear r2 k2 b2 LX LY K3
    go_wp2_with (first | (refine wpList_load_known rfl _ (.tmp 36) rfl _ rfl _ L2.out ?_) | (refine wpList_build_k1 rfl (.tmp 37) rfl y rfl ?_) | (at_builtin; refine wpList_append_runK rfl (.tmp 33) (.tmp 38) 22 rfl _ _ _ rfl rfl R2.out ?_))
    go_roundw
    case rel => exact ⟨k + 1, now ++ [y], true, rfl, by simp, by have := HKK.out; omega, by have := HK.out; simp; omega, by simp, KF.out, by
     have h := HPI.out _ _ _ HP.out
     rw [if_pos rfl, HD.out] at h
     unfold PutJ
     rw [h, if_pos rfl]
     simp, HE2.out⟩
    case measure => have := HKK.out; simp [intOf]; omega
   ·go_wp2_with fail
    refine wp_region_quietL (C := Grows w0) hmx (by kernel_rfl) (grows_refl w0) ?_
    repeat (first | (with_reducible refine wpQuiet_load rfl 31 _ rfl _ rfl _ LX.out ?_; simp only [Act.put, sT, sS, sZ]) | (with_reducible refine wpQuiet_load rfl 31 _ rfl _ rfl _ LY.out ?_; simp only [Act.put, sT, sS, sZ]) | (go_big_quiet_step (first | (with_reducible exact K3.out _))))
    refine wpQuiet_nil ?_
    rintro _ ⟨z, rfl⟩
    have HE := hid (HQ.out.trans (z.below.mono HQ.out.size))
    have R0 := hid (HROW.out.later z.below)
    obtain ⟨v2, A2, r2, k2, b2⟩ := push_key z.w V.heap.size ov now R0.out HE.out.size (by have := hlc.out; have := HK.out; omega) y HYO.out
    have L2 := hid (show (loadVar 31 (b.add (k * 25))).run Try.prog z.w = .ok (.agg (kyC y)) z.w from KyIn.load (HYA.out z.w HE.out))
    have HE2 := hid (HE.out.trans b2)
    have R2 := hid r2
    have KF := hid k2
    clear r2 k2 b2 LX LY K3
    go_wp2_with (first | (refine wpList_load_known rfl _ (.tmp 36) rfl _ rfl _ L2.out ?_) | (refine wpList_build_k1 rfl (.tmp 37) rfl y rfl ?_) | (at_builtin; refine wpList_append_runK rfl (.tmp 33) (.tmp 38) 22 rfl _ _ _ rfl rfl R2.out ?_))
    go_roundw
    case rel => exact ⟨k + 1, now ++ [y], true, rfl, by simp, by have := HKK.out; omega, by have := HK.out; simp; omega, by simp, KF.out, by
     have h := HPI.out _ _ _ HP.out
     rw [if_neg (by decide), HD.out, HI.out, if_neg (by decide)] at h
     first | rw [if_pos rfl] at h | rw [if_pos trivial] at h
     unfold PutJ
     rw [h, if_pos rfl]
     simp, HE2.out⟩
    case measure => have := HKK.out; simp [intOf]; omega
   ·go_wp2_with fail
    refine wp_region_quietL (C := Grows w0) hmx (by kernel_rfl) (grows_refl w0) ?_
    repeat (first | (with_reducible refine wpQuiet_load rfl 31 _ rfl _ rfl _ LX.out ?_; simp only [Act.put, sT, sS, sZ]) | (with_reducible refine wpQuiet_load rfl 31 _ rfl _ rfl _ LY.out ?_; simp only [Act.put, sT, sS, sZ]) | (go_big_quiet_step (first | (with_reducible exact K3.out _))))
    refine wpQuiet_nil ?_
    rintro _ ⟨z, rfl⟩
    have HE := hid (HQ.out.trans (z.below.mono HQ.out.size))
    have R0 := hid (HROW.out.later z.below)
    obtain ⟨v2, A2, r2, k2, b2⟩ := push_key z.w V.heap.size ov now R0.out HE.out.size (by have := hlc.out; have := HK.out; omega) y HYO.out
    have L2 := hid (show (loadVar 31 (b.add (k * 25))).run Try.prog z.w = .ok (.agg (kyC y)) z.w from KyIn.load (HYA.out z.w HE.out))
    have HE2 := hid (HE.out.trans b2)
    have R2 := hid r2
    have KF := hid k2
    clear r2 k2 b2 LX LY K3
    go_wp2_with (first | (refine wpList_load_known rfl _ (.tmp 36) rfl _ rfl _ L2.out ?_) | (refine wpList_build_k1 rfl (.tmp 37) rfl y rfl ?_) | (at_builtin; refine wpList_append_runK rfl (.tmp 33) (.tmp 38) 22 rfl _ _ _ rfl rfl R2.out ?_))
    go_roundw
    case rel => exact ⟨k + 1, now ++ [y], true, rfl, by simp, by have := HKK.out; omega, by have := HK.out; simp; omega, by simp, KF.out, by
     have h := HPI.out _ _ _ HP.out
     rw [if_pos rfl, HD.out] at h
     unfold PutJ
     rw [h, if_pos rfl]
     simp, HE2.out⟩
    case measure => have := HKK.out; simp [intOf]; omega
   ·go_wp2_with fail
    refine wp_region_quietL (C := Grows w0) hmx (by kernel_rfl) (grows_refl w0) ?_
    repeat (first | (with_reducible refine wpQuiet_load rfl 31 _ rfl _ rfl _ LX.out ?_; simp only [Act.put, sT, sS, sZ]) | (with_reducible refine wpQuiet_load rfl 31 _ rfl _ rfl _ LY.out ?_; simp only [Act.put, sT, sS, sZ]) | (go_big_quiet_step (first | (with_reducible exact K3.out _))))
    refine wpQuiet_nil ?_
    rintro _ ⟨z, rfl⟩
    have HE := hid (HQ.out.trans (z.below.mono HQ.out.size))
    have R0 := hid (HROW.out.later z.below)
    obtain ⟨v2, A2, r2, k2, b2⟩ := push_key z.w V.heap.size ov now R0.out HE.out.size (by have := hlc.out; have := HK.out; omega) y HYO.out
    have L2 := hid (show (loadVar 31 (b.add (k * 25))).run Try.prog z.w = .ok (.agg (kyC y)) z.w from KyIn.load (HYA.out z.w HE.out))
    have HE2 := hid (HE.out.trans b2)
    have R2 := hid r2
    have KF := hid k2
    clear r2 k2 b2 LX LY K3
    go_wp2_with (first | (refine wpList_load_known rfl _ (.tmp 36) rfl _ rfl _ L2.out ?_) | (refine wpList_build_k1 rfl (.tmp 37) rfl y rfl ?_) | (at_builtin; refine wpList_append_runK rfl (.tmp 33) (.tmp 38) 22 rfl _ _ _ rfl rfl R2.out ?_))
    go_roundw
    case rel => exact ⟨k + 1, now ++ [y], false, rfl, by simp, by have := HKK.out; omega, by have := HK.out; simp; omega, (by intro _; have := HLF.out (by trivial); simp; omega), KF.out, by
     have h := HPI.out _ _ _ HP.out
     rw [if_neg (by decide), HD.out, HI.out, if_neg (by decide), if_neg (by decide)] at h
     unfold PutJ
     rw [h, if_neg (by decide)]
     simp, HE2.out⟩
    case measure => have := HKK.out; simp [intOf]; omega
   ·go_wp2_with fail
    refine wp_region_quietL (C := Grows w0) hmx (by kernel_rfl) (grows_refl w0) ?_
    repeat (first | (with_reducible refine wpQuiet_load rfl 31 _ rfl _ rfl _ LX.out ?_; simp only [Act.put, sT, sS, sZ]) | (with_reducible refine wpQuiet_load rfl 31 _ rfl _ rfl _ LY.out ?_; simp only [Act.put, sT, sS, sZ]) | (go_big_quiet_step (first | (with_reducible exact K3.out _))))
    refine wpQuiet_nil ?_
    rintro _ ⟨z, rfl⟩
    have HE := hid (HQ.out.trans (z.below.mono HQ.out.size))
    have R0 := hid (HROW.out.later z.below)
    obtain ⟨v2, A2, r2, k2, b2⟩ := push_key z.w V.heap.size ov now R0.out HE.out.size (by have := hlc.out; have := HK.out; omega) y HYO.out
    have L2 := hid (show (loadVar 31 (b.add (k * 25))).run Try.prog z.w = .ok (.agg (kyC y)) z.w from KyIn.load (HYA.out z.w HE.out))
    have HE2 := hid (HE.out.trans b2)
    have R2 := hid r2
    have KF := hid k2
    clear r2 k2 b2 LX LY K3
    go_wp2_with (first | (refine wpList_load_known rfl _ (.tmp 36) rfl _ rfl _ L2.out ?_) | (refine wpList_build_k1 rfl (.tmp 37) rfl y rfl ?_) | (at_builtin; refine wpList_append_runK rfl (.tmp 33) (.tmp 38) 22 rfl _ _ _ rfl rfl R2.out ?_))
    go_roundw
    case rel => exact ⟨k + 1, now ++ [y], true, rfl, by simp, by have := HKK.out; omega, by have := HK.out; simp; omega, by simp, KF.out, by
     have h := HPI.out _ _ _ HP.out
     rw [if_pos rfl, HD.out] at h
     unfold PutJ
     rw [h, if_pos rfl]
     simp, HE2.out⟩
    case measure => have := HKK.out; simp [intOf]; omega
  ·obtain rfl : k = n := by have := HK.out; omega
   have hnn : ¬ (k : Int) < (k : Int) := by omega
   have HDR := hid (show l.drop k = [] from List.drop_eq_nil_of_le (by have := HN.out; omega))
   cases d
   ·obtain ⟨v1, A1, r1, k1, b1⟩ := push_key w0 V.heap.size ov now HROW.out HQ.out.size (by have := hlc.out; have := HK.out; omega) x HXO.out
    have L1 := hid (show (loadVar 31 ⟨W.heap.size, 0, none⟩).run Try.prog w0 = .ok (.agg (kyC x)) w0 from (HB.out.later HQ.out).kyLoad)
    have R1 := hid r1
    have E := hid (show insK x l = now ++ [x] by
     have h := HPI.out _ _ _ HP.out
     rw [if_neg (by decide), HDR.out] at h
     exact h)
    have KF := hid (show KRow A1 W.heap.size v1 (insK x l) from by rw [E.out]; exact k1.lower Q.out.size)
    have QF := hid (QW.out.trans (b1.mono Q.out.size))
    clear r1 k1 b1
    go_wp2_with (first | (refine wpList_load_known rfl _ (.tmp 3) rfl _ rfl _ L1.out ?_) | (refine wpList_build_k1 rfl (.tmp 43) rfl x rfl ?_) | (at_builtin; refine wpList_append_runK rfl (.tmp 42) (.tmp 44) 22 rfl _ _ _ rfl rfl R1.out ?_))
    go_ret
    exact ⟨_, rfl, KF.out, QF.out⟩
   ·have E := hid (show insK x l = now by
     have h := HPI.out _ _ _ HP.out
     rw [if_pos rfl, HDR.out, List.append_nil] at h
     exact h)
    have KF := hid (show KRow w0 W.heap.size ov (insK x l) from by rw [E.out]; exact HROW.out.lower Q.out.size)
    go_wp2_with fail
    go_ret
    exact ⟨_, rfl, KF.out, QW.out⟩
end Go.Proofs.Ytahjgllnfbejmaa
namespace Go.Proofs.Ytahjgllnfbejmaa
open Go Go.RowKit
attribute [local go_sem] Oper.semAt_some Grows wide_fn
theorem setL_take_len (l : List Ky) : ∀ k, (setL (l.take k)).length ≤ k
 | 0 => by simp [setL]
 | k + 1 => by
  rw [List.take_add_one]
  have ih := setL_take_len l k
  cases h : l[k]? with
  | none => simp; omega
  | some x =>
   rw [Option.toList_some, setL_snoc]
   have := insK_len x (setL (l.take k))
   omega
theorem setL_ok {l : List Ky} (h : ∀ x ∈ l, KyOk x) : ∀ x ∈ setL l, KyOk x := fun x hx => h x (((foldK l [] List.Pairwise.nil).2 x).1 hx |>.resolve_left (by simp))
theorem rset_any (W : World) (sv : Value) (l : List Ky) (hs : KeysAt W sv l) (hl : l.length ≤ 9999) :
  Calls Try.prog 31 #[sv] W fun e w' => ∃ v', e = .returned v' ∧ KRow w' W.heap.size v' (setL l) ∧ Below W.heap.size W w' := by
 obtain ⟨a, cap, rfl, hnc, hcm⟩ := hs.shape
 have HS := hid hs
 obtain ⟨n, hn⟩ : ∃ n, l.length = n := ⟨_, rfl⟩
 rw [hn] at HS hnc hl ⊢
 have HN := hid hn
 have hlc := hid (And.intro hl (Nat.le_trans hnc hcm))
 have HT := hid (show setL (l.take n) = setL l by rw [List.take_of_length_le (by omega)])
 clear hs hnc hcm hn hl
 go_enter Try.func31, Try.ntmps31
 go_wp2_with fail
 go_loopw [3, 4] (fun ov i wr => ∃ k : Nat, i = .int .i64 (k : Int) ∧ k ≤ n ∧ KRow wr W.heap.size ov (setL (l.take k)) ∧ Below W.heap.size W wr) (fun _ i _ => n - (intOf i).toNat)
 case atStart => exact ⟨0, rfl, by omega, KRow.nil _ _, Below.refl _ _⟩
 case round =>
  obtain ⟨k, rfl, hkn, hrow, hq⟩ := hrel
  obtain ⟨ov, hov⟩ : ∃ ov, ov = u3 := ⟨_, rfl⟩
  subst hov
  have HQ := hid hq
  have HROW := hid hrow
  have HK := hid hkn
  clear hq hrow
  by_cases hk : k < n
  ·have hknI : (k : Int) < (n : Int) := by omega
   have hk0 : (0 : Int) ≤ (k : Int) := by omega
   have hkb : (k : Int) ≤ 9223372036854775806 := by have := hlc.out; omega
   obtain ⟨y, hy⟩ : ∃ y, l[k]? = some y := ⟨_, List.getElem?_eq_getElem (by have := HN.out; omega)⟩
   obtain ⟨b, rfl, ay⟩ := (HS.out.later HQ.out).at hy
   have LY := hid ay.load
   have HX := hid (show setL (l.take (k + 1)) = insK y (setL (l.take k)) by
    rw [List.take_add_one, hy, Option.toList_some, setL_snoc])
   have PT := hid (rput_any wr ov (setL (l.take k)) y (HS.out.ok hy) (HROW.out.keys (setL_ok (fun x hx => HS.out.all x (List.mem_of_mem_take hx)))) (by have := setL_take_len l k; have := hlc.out; omega))
   have HKK := hid hk
   clear hk hkn ay hy
   go_wp2_with (first | (refine wpList_load_known rfl _ (.tmp 14) rfl _ rfl _ LY.out ?_) | fail)
   refine PT.out.mono ?_
   rintro _ w1 ⟨v1, rfl, h1, hb1⟩
   have R1 := hid (h1.lower HQ.out.size)
   have Q1 := hid (HQ.out.trans (hb1.mono HQ.out.size))
   clear h1 hb1 PT LY
   go_wp2_with fail
   go_roundw
   case rel => exact ⟨k + 1, by simp, by have := HKK.out; omega, by rw [HX.out]; exact R1.out, Q1.out⟩
   case measure => have := HKK.out; simp [intOf]; omega
  ·obtain rfl : k = n := by have := HK.out; omega
   have hnn : ¬ (k : Int) < (k : Int) := by omega
   have R := hid (show KRow wr W.heap.size ov (setL l) from by have h := HROW.out; rw [HT.out] at h; exact h)
   go_wp2_with fail
   go_ret
   exact ⟨_, rfl, R.out, HQ.out⟩
end Go.Proofs.Ytahjgllnfbejmaa
