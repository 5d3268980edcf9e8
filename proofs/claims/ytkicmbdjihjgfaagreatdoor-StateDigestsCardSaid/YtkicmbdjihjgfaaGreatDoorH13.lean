/- Part. -/
import Derived.Test.YtkicmbdjihjgfaaGreatDoorH03
import Derived.Test.YtkicmbdjihjgfaaGreatDoorH12
set_option maxRecDepth 100000
set_option maxHeartbeats 16000000
namespace Go.Proofs.YtkicmbdjihjgfaaGreatDoor.Late
open Go Go.RowKit Go.BigFrame
section
variable {P : Program} {md : Region.Mode}
structure GhostOk (md : Region.Mode) (l : List Oper) (deps : List (List Nat)) : Prop where
 sel : ∀ (j : Nat) (o : Oper) cs b, l[j]? = some o → o.op ≠ .select cs b
 edges : ∀ (j : Nat) (oj : Oper), l[j]? = some oj → ∀ e ∈ oj.after, Region.binds md e = true → e.on < j
 told : ∀ i, i < l.length → ∀ j ∈ deps.getD i [], j < i ∧ ∃ k, Region.waitsFor md l.toArray i k = true ∧ (j = k ∨ j ∈ deps.getD k [])
 looks : ∀ (i j : Nat) (oi oj : Oper), l[i]? = some oi → l[j]? = some oj → ∀ d, oj.dst = some d → d ∈ oi.looksAt l.toArray → j ∈ deps.getD i [] ∨ i ∈ deps.getD j []
 dsts : ∀ (i j : Nat) (oi oj : Oper), l[i]? = some oi → l[j]? = some oj → j ≠ i → ∀ d, oi.dst = some d → oj.dst ≠ some d
def ghostOne (md : Region.Mode) (l : List Oper) (deps : List (List Nat)) (i : Nat) (oi : Oper) : Bool :=
 (oi.after.all fun e => !Region.binds md e || decide (e.on < i)) &&
 ((deps.getD i []).all fun j => decide (j < i) && ((List.range l.length).any fun k => Region.waitsFor md l.toArray i k && (j == k || (deps.getD k []).contains j))) &&
 ((List.range l.length).all fun j => match l[j]? with
  | none => true
  | some oj => match oj.dst with
   | none => true
   | some d => (!(oi.looksAt l.toArray).contains d || ((deps.getD i []).contains j || (deps.getD j []).contains i)) && (j == i || oi.dst != some d))
def ghostB (md : Region.Mode) (l : List Oper) (deps : List (List Nat)) : Bool :=
 Region.noSelect l.toArray &&
 ((List.range l.length).all fun i => match l[i]? with
  | none => true
  | some oi => ghostOne md l deps i oi)
theorem ghostOk {md : Region.Mode} {l : List Oper} {deps : List (List Nat)} (h : ghostB md l deps = true) : GhostOk md l deps := by
 unfold ghostB at h
 rw [Bool.and_eq_true] at h
 obtain ⟨h1, h2⟩ := h
 have key : ∀ i oi, l[i]? = some oi → ghostOne md l deps i oi = true := fun i oi hi => by
  have := List.all_eq_true.1 h2 i (List.mem_range.2 (List.getElem?_eq_some_iff.1 hi).1)
  simpa only [hi] using this
 have key1 : ∀ (i : Nat) (oi : Oper), l[i]? = some oi → (oi.after.all fun e => !Region.binds md e || decide (e.on < i)) = true := fun i oi hi => by
  have := key i oi hi
  unfold ghostOne at this
  rw [Bool.and_eq_true, Bool.and_eq_true] at this
  exact this.1.1
 have key2 : ∀ (i : Nat) (oi : Oper), l[i]? = some oi → ((deps.getD i []).all fun j => decide (j < i) && ((List.range l.length).any fun k => Region.waitsFor md l.toArray i k && (j == k || (deps.getD k []).contains j))) = true := fun i oi hi => by
  have := key i oi hi
  unfold ghostOne at this
  rw [Bool.and_eq_true, Bool.and_eq_true] at this
  exact this.1.2
 have key3 : ∀ (i : Nat) (oi : Oper) (j : Nat) (oj : Oper) (d : Tmp), l[i]? = some oi → l[j]? = some oj → oj.dst = some d → ((oi.looksAt l.toArray).contains d = true → ((deps.getD i []).contains j || (deps.getD j []).contains i) = true) ∧ (j ≠ i → oi.dst ≠ some d) := fun i oi j oj d hi hj hd => by
  have := key i oi hi
  unfold ghostOne at this
  rw [Bool.and_eq_true] at this
  have := List.all_eq_true.1 this.2 j (List.mem_range.2 (List.getElem?_eq_some_iff.1 hj).1)
  simp only [hj, hd] at this
  rw [Bool.and_eq_true] at this
  refine ⟨fun h => ?_, fun hne => ?_⟩
  ·have h1 := this.1
   rw [h] at h1
   simpa only [Bool.not_true, Bool.false_or] using h1
  ·have h2 := this.2
   rw [Bool.or_eq_true, beq_iff_eq, bne_iff_ne] at h2
   rcases h2 with h' | h'
   ·exact absurd h' hne
   ·exact h'
 refine ⟨fun j o cs b hj => Region.noSelect_spec h1 j o cs b (by simpa using hj), fun j oj hj e he hb => ?_, fun i hi j hj => ?_, fun i j oi oj hi hj d hd hin => ?_, fun i j oi oj hi hj hne d hd hd' => (key3 i oi j oj d hi hj hd').2 hne hd⟩
 ·have := Array.all_eq_true_iff_forall_mem.1 (key1 j oj hj) e he
  rw [hb] at this
  simpa using this
 ·have := List.all_eq_true.1 (key2 i l[i] (by simp [hi])) j hj
  rw [Bool.and_eq_true, decide_eq_true_eq] at this
  obtain ⟨k, _, hk⟩ := List.any_eq_true.1 this.2
  rw [Bool.and_eq_true, Bool.or_eq_true, beq_iff_eq, List.contains_iff_mem] at hk
  exact ⟨this.1, k, hk.1, hk.2⟩
 ·have h3 := (key3 i oi j oj d hi hj hd).1 (List.contains_iff_mem.2 hin)
  rw [Bool.or_eq_true, List.contains_iff_mem, List.contains_iff_mem] at h3
  exact h3
variable {ops : Array Oper} {c : List (Option Value)} {deps : List (List Nat)} {U : (Nat → Bool) → (Nat → Value) → World → Prop} {Q : Exit → Act → World → Prop} {f : Nat → Bool} {g : Nat → Value} {w : World}
variable {F : Fence} {m : Nat}
structure Held (md : Region.Mode) (l : List Oper) (c : List (Option Value)) (deps : List (List Nat)) (U : (Nat → Bool) → (Nat → Value) → World → Prop) (a0 : Act) (listed : Array Bool) (g : Nat → Value) (a : Act) (w : World) : Prop where
 closed : Closed md l.toArray listed
 act : a = putsG (fun j => listed.getD j false) g 0 l a0
 vals : ∀ j v, listed.getD j false = true → c.getD j none = some v → g j = v
 down : ∀ k, listed.getD k false = true → ∀ j ∈ deps.getD k [], listed.getD j false = true
 world : U (fun j => listed.getD j false) g w
theorem exists_ready' {l : List Oper} (hedges : ∀ (j : Nat) (oj : Oper), l[j]? = some oj → ∀ e ∈ oj.after, Region.binds md e = true → e.on < j) {listed : Array Bool} (hc : Closed md l.toArray listed) : ∀ i, listed.getD i true = false → ∃ j, j ∈ Region.ready md l.toArray listed := by
 intro i
 induction i using Nat.strongRecOn with
 | _ i ih =>
  intro hi
  by_cases h : ∃ oi, l.toArray[i]? = some oi ∧ ∃ e ∈ oi.after, Region.binds md e = true ∧ listed.getD e.on false = false
  ·obtain ⟨oi, hoi, e, he, hb, hf⟩ := h
   have hlt := hedges i oi (by simpa using hoi) e he hb
   have hil : i < listed.size := by
    rw [hc.1]; exact (Array.getElem?_eq_some_iff.1 hoi).1
   exact ih e.on hlt (getD_in (by omega) hf)
  ·refine ⟨i, mem_ready.2 ⟨hi, ?_⟩⟩
   have hil : i < l.toArray.size := by
    rw [← hc.1]
    rcases Nat.lt_or_ge i listed.size with h' | h'
    ·exact h'
    ·simp [Array.getElem?_eq_none h'] at hi
   refine ⟨l.toArray[i], by simp [], fun e he hb => ?_⟩
   cases hl : listed.getD e.on false with
   | true => rfl
   | false => exact absurd ⟨l.toArray[i], by simp [], e, he, hb, hl⟩ h
theorem ghost_main (hF : Free F) {l : List Oper} {a0 : Act} (ok : GhostOk md l deps) (hnd : ∀ o ∈ l, ∀ q, o.op ≠ .defer q)
  (hg : ∀ f g w w', U f g w → Below w.heap.size w w' → U f g w')
  (hi : ∀ f f' g g' w, (∀ j, c.getD j none = none → f j = f' j ∧ g j = g' j) → U f g w → U f' g' w)
  (hw : ∀ f g w, U f g w → (∀ k, f k = true → ∀ j ∈ deps.getD k [], f j = true) → GW P l.toArray c deps U Q f g w 0 l a0) :
  ∀ (fuel : Nat) (V : List Nat) (listed : Array Bool) (g : Nat → Value) (a : Act) (w : World), V.Nodup → (∀ i, i ∈ V ↔ listed.getD i true = false) → V.length = fuel → Held md l c deps U a0 listed g a w →
   wpAnyIn F m P md l.toArray Q fuel listed a w := by
 intro fuel
 induction fuel with
 | zero =>
  intro V listed g a w hV hVm hVl H
  have hnil : V = [] := List.eq_nil_of_length_eq_zero hVl
  subst hnil
  have hall : ∀ i, listed.getD i true = true := fun i => by
   cases hi : listed.getD i true with
   | true => rfl
   | false => have := (hVm i).2 hi; cases this
  have hallf : ∀ i, i < l.length → listed.getD i false = true := fun i hil => by
   cases hi : listed.getD i false with
   | true => rfl
   | false => have := getD_in (by rw [H.closed.1]; simpa using hil) hi; rw [hall] at this; cases this
  refine ⟨?_, ?_⟩
  ·apply List.eq_nil_iff_forall_not_mem.2
   intro j hj
   have := (mem_ready.1 hj).1
   rw [hall] at this; cases this
  ·have h0 : putsG (fun j => decide (j < 0)) (knownG c g) 0 l a0 = a0 := by
    rw [putsG_congr l 0 a0 (fun j => decide (j < 0)) (fun _ => false) (knownG c g) g (fun j _ _ => ⟨by simp, fun h => by simp at h⟩)]
    have : ∀ (t : List Oper) k, putsG (fun _ => false) g k t a0 = a0 := by
     intro t
     induction t with
     | nil => intro k; rfl
     | cons o t ih => intro k; simp only [putsG, Bool.false_eq_true, if_false]; exact ih _
    exact this l 0
   have hGW := hw _ _ _ H.world H.down
   rw [← h0] at hGW
   have := (GW.at ok.dsts l 0 (fun j => by simp) (by simp) (by rw [h0] at hGW ⊢; exact hGW)).2 hallf
   rw [H.act]
   rw [putsG_congr l 0 a0 (fun j => listed.getD j false) (fun j => decide (j < l.length)) g (knownG c g) (fun j _ hj => ⟨by rw [hallf j (by omega)]; simp; omega, fun hf => by
    unfold knownG
    cases hc : c.getD j none with
    | none => rfl
    | some v => rw [H.vals j v hf hc]; rfl⟩)]
   exact this
 | succ fuel ih =>
  intro V listed g a w hV hVm hVl H
  refine ⟨fun h0 => ?_, fun i hir => ?_⟩
  ·obtain ⟨j, hj⟩ : ∃ j, j ∈ V := by
    cases V with
    | nil => cases hVl
    | cons x r => exact ⟨x, by simp⟩
   obtain ⟨k, hk⟩ := exists_ready' ok.edges H.closed j ((hVm j).1 hj)
   rw [h0] at hk; cases hk
  ·obtain ⟨hun, oi, hoi, hall⟩ := mem_ready.1 hir
   have hoi' : l[i]? = some oi := by simpa using hoi
   have hilt : i < l.length := (List.getElem?_eq_some_iff.1 hoi').1
   have hiV : i ∈ V := (hVm i).2 hun
   have hV' : (V.erase i).Nodup := hV.erase i
   have hVm' : ∀ j, j ∈ V.erase i ↔ (listed.setIfInBounds i true).getD j true = false := fun j => by
    by_cases hji : j = i
    ·subst hji
     rw [getD_set_true']
     simp [hV.not_mem_erase]
    ·rw [List.mem_erase_of_ne hji, hVm j, getD_set_ne true (Ne.symm hji)]
   have hVl' : (V.erase i).length = fuel := by rw [List.length_erase_of_mem hiV, hVl]; rfl
   have hc' := H.closed.set hir
   have hom : oi ∈ l := List.mem_of_getElem? hoi'
   have hfi : listed.getD i false = false := getD_both hun
   have hdown : ∀ j ∈ deps.getD i [], listed.getD j false = true := fun j hj => by
    obtain ⟨_, k, hk, hjk⟩ := ok.told i hilt j hj
    have hlk := ready_waits hir hk
    rcases hjk with rfl | hjk
    ·exact hlk
    ·exact H.down k hlk j hjk
   have hflag : (fun j => (listed.setIfInBounds i true).getD j false) = upd (fun j => listed.getD j false) i true := by
    funext j
    by_cases hji : j = i
    ·subst hji
     rw [upd_self]
     have : j < listed.size := by rw [H.closed.1]; simpa using hilt
     simp [this]
    ·rw [upd_ne _ _ hji, getD_set_ne false (Ne.symm hji)]
   -- the frame as the walk has it
   let A := putsG (fun j => decide (j < i)) (knownG c g) 0 l a0
   have hA : A = putsG (fun j => decide (j < i)) (knownG c g) 0 l a0 := rfl
   have h0 : putsG (fun j => decide (j < 0)) (knownG c g) 0 l a0 = a0 := by
    rw [putsG_congr l 0 a0 (fun j => decide (j < 0)) (fun _ => false) (knownG c g) g (fun j _ _ => ⟨by simp, fun h => by simp at h⟩)]
    have : ∀ (t : List Oper) k, putsG (fun _ => false) g k t a0 = a0 := by
     intro t
     induction t with
     | nil => intro k; rfl
     | cons o t ih => intro k; simp only [putsG, Bool.false_eq_true, if_false]; exact ih _
    exact this l 0
   have hGW := hw _ _ _ H.world H.down
   have hW := (GW.at (a0 := a0) ok.dsts l 0 (fun j => by simp) (by simp) (by rw [h0]; exact hGW)).1 i oi (Nat.zero_le _) hoi' hdown hfi
   rw [← hA] at hW
   have hsz : A.tmps.size = a.tmps.size := by rw [hA, H.act, putsG_size, putsG_size]
   have htm : ∀ t ∈ oi.looksAt l.toArray, a.tmps[t]? = A.tmps[t]? := fun t ht => by
    rw [hA, H.act]
    refine putsG_agree l 0 a0 a0 _ _ _ _ t rfl rfl (fun j oj hj hd => ?_)
    rw [Nat.zero_add]
    rcases ok.looks i j oi oj hoi' hj t hd ht with hjd | hjd
    rotate_left
    ·have hjl : j < l.length := (List.getElem?_eq_some_iff.1 hj).1
     have hij := (ok.told j hjl i hjd).1
     have hnl : listed.getD j false = false := by
      cases hl : listed.getD j false with
      | false => rfl
      | true => have := H.down j hl i hjd; rw [hfi] at this; cases this
     exact ⟨by show listed.getD j false = decide (j < i); rw [hnl, decide_eq_false (by omega)], fun h => by rw [hnl] at h; cases h⟩
    have hlj := hdown j hjd
    have hji := (ok.told i hilt j hjd).1
    refine ⟨by show listed.getD j false = decide (j < i); rw [hlj, decide_eq_true hji], fun _ => ?_⟩
    unfold knownG
    cases hc : c.getD j none with
    | none => rfl
    | some v => rw [H.vals j v hlj hc]; rfl
   have hex : execOp a.eval oi = execOp A.eval oi := exec_same oi (fun cs b => ok.sel i oi cs b hoi') a A htm
   have hwn : Region.wanted oi (yielded l.toArray a.tmps) = Region.wanted oi (yielded l.toArray A.tmps) := wanted_same oi a A htm
   have hadA : A.defers = a.defers := by rw [hA, H.act, putsG_defers, putsG_defers]
   -- what comes behind
   have next : ∀ (ds : List Deferred) (v : Value) (w' : World), onceC A oi (fun u w' => match c.getD i none with | some v => u = v ∧ Below w.heap.size w w' | none => U (upd (fun j => listed.getD j false) i true) (upd g i u) w') .normal ((Act.deferring A ds).put oi.dst v) w' →
     wpAnyIn F m P md l.toArray Q fuel (listed.setIfInBounds i true) ((Act.deferring a ds).put oi.dst v) w' := fun ds v w' hnx => by
    obtain ⟨hds, hR⟩ := hnx
    rw [put_defers] at hds
    have hds' : ds = a.defers := by rw [← hadA]; exact hds
    subst hds'
    have hg' : got oi ((Act.deferring A a.defers).put oi.dst v) = got oi (a.put oi.dst v) := got_put_same oi _ _ v hsz
    rw [hg'] at hR
    rw [deferring_self, ← put_got]
    refine ih (V.erase i) _ (upd g i (got oi (a.put oi.dst v))) _ w' hV' hVm' hVl' ⟨hc', ?_, ?_, ?_, ?_⟩
    ·rw [hflag, H.act]
     have := putsG_fire l 0 a0 i oi (got oi (a.put oi.dst v)) (fun j => listed.getD j false) g hoi' (by rw [Nat.zero_add]; exact hfi) (fun j oj hj hne => ok.dsts i j oi oj hoi' hj hne)
     rw [Nat.zero_add] at this
     rw [← H.act]
     rw [this, ← H.act]
    ·intro j v' hj hcj
     by_cases hji : j = i
     ·subst hji
      rw [upd_self]
      rw [hcj] at hR
      exact hR.1
     ·rw [getD_set_ne false (Ne.symm hji)] at hj
      rw [upd_ne _ _ hji]
      exact H.vals j v' hj hcj
    ·intro k hk j hj
     by_cases hki : k = i
     ·subst hki; exact getD_set_true (hdown j hj)
     ·rw [getD_set_ne false (Ne.symm hki)] at hk
      exact getD_set_true (H.down k hk j hj)
    ·rw [hflag]
     cases hc : c.getD i none with
     | none => rw [hc] at hR; exact hR
     | some v' =>
      rw [hc] at hR
      refine hi _ _ _ _ _ (fun j hj => ?_) (hg _ _ _ _ H.world hR.2)
      have hji : j ≠ i := fun e => by rw [e, hc] at hj; cases hj
      exact ⟨(upd_ne (fun j => listed.getD j false) true hji).symm, (upd_ne g _ hji).symm⟩
   unfold wpOpIn
   simp only [hoi]
   simp only [wpList] at hW
   rw [← hwn] at hW
   by_cases hwt : Region.wanted oi (yielded l.toArray a.tmps) = true
   ·rw [if_pos hwt] at hW
    rw [if_pos hwt]
    refine ⟨fun f _ => hF.fn f, ?_⟩
    rw [Oper.semAt_eq _ _ _ (hnd oi hom)]
    rcases hW with hW | ⟨_, hl⟩
    ·unfold Oper.wp at hW
     rw [← hex] at hW
     exact uponIn_frame hF hadA (fun ds v w' h => next ds v w' h) hW
    ·exact absurd hl (not_letsOut _)
   ·rw [if_neg hwt] at hW
    rw [if_neg hwt]
    refine ⟨fun f _ => hF.fn f, ?_⟩
    have := next A.defers undef w (by rw [deferring_self]; exact hW)
    rw [hadA, deferring_self] at this
    exact this
theorem wpIn_region_ghost (hF : Free F) (c : List (Option Value)) (deps : List (List Nat)) (U : (Nat → Bool) → (Nat → Value) → World → Prop) {id : Nat} {a : Act} {w : World} {l : List Oper} (hm : P.follows .mixedOrders = true) (hnd : noDefer l = true) (hB : ghostB .any l deps = true)
  (hg : ∀ f g w w', U f g w → Below w.heap.size w w' → U f g w')
  (hi : ∀ f f' g g' w, (∀ j, c.getD j none = none → f j = f' j ∧ g j = g' j) → U f g w → U f' g' w)
  (h0 : U (fun _ => false) (fun _ => undef) { w with drawn := w.drawn + 1 })
  (hw : ∀ f g w, U f g w → (∀ k, f k = true → ∀ j ∈ deps.getD k [], f j = true) → GW P l.toArray c deps U Q f g w 0 l a) : (Code.region id l.toArray true).wpIn F m P Q a w := by
 have ok := ghostOk hB
 refine wpIn_region_any hm ?_
 have hf0 : (fun j => (Array.replicate l.toArray.size false).getD j false) = fun _ => false := by funext j; exact getD_replicate_false _ _
 refine ghost_main hF ok (noDefer_spec hnd) hg hi hw l.toArray.size (List.range l.toArray.size) _ (fun _ => undef) a _ List.nodup_range (fun i => ?_) (by simp) ⟨⟨by simp, fun j oj _ hl => ?_⟩, ?_, fun j v hj => ?_, fun k hk => ?_, ?_⟩
 ·rw [List.mem_range]
  rcases Nat.lt_or_ge i l.toArray.size with h | h
  ·exact ⟨fun _ => getD_in (by simpa using h) (getD_replicate_false _ _), fun _ => h⟩
  ·refine ⟨fun h' => absurd h' (by omega), fun h' => ?_⟩
   simp only [List.size_toArray] at h
   simp [Array.getD, show ¬ i < l.length by omega] at h'
 ·rw [getD_replicate_false] at hl; cases hl
 ·rw [hf0]
  have : ∀ (t : List Oper) k, putsG (fun _ => false) (fun _ => undef) k t a = a := by
   intro t
   induction t with
   | nil => intro k; rfl
   | cons o t ih => intro k; simp only [putsG, Bool.false_eq_true, if_false]; exact ih _
  exact (this l 0).symm
 ·rw [getD_replicate_false] at hj; cases hj
 ·rw [getD_replicate_false] at hk; cases hk
 ·rw [hf0]; exact h0
theorem wp_region_ghost (c : List (Option Value)) (deps : List (List Nat)) (U : (Nat → Bool) → (Nat → Value) → World → Prop) {id : Nat} {a : Act} {w : World} {l : List Oper} (hm : P.follows .mixedOrders = true) (hnd : noDefer l = true) (hB : ghostB .any l deps = true)
  (hg : ∀ f g w w', U f g w → Below w.heap.size w w' → U f g w')
  (hi : ∀ f f' g g' w, (∀ j, c.getD j none = none → f j = f' j ∧ g j = g' j) → U f g w → U f' g' w)
  (h0 : U (fun _ => false) (fun _ => undef) { w with drawn := w.drawn + 1 })
  (hw : ∀ f g w, U f g w → (∀ k, f k = true → ∀ j ∈ deps.getD k [], f j = true) → GW P l.toArray c deps U Q f g w 0 l a) : (Code.region id l.toArray true).wp P Q a w :=
 wpIn_wide.1 (wpIn_region_ghost (m := 0) free_wide c deps U hm hnd hB hg hi h0 hw)
end
end Go.Proofs.YtkicmbdjihjgfaaGreatDoor.Late
namespace Go.Proofs.YtkicmbdjihjgfaaGreatDoor
open Go Go.RowKit
structure Ch where
 kind : Int
 at_ : Nat
 key : Nat
 val : Nat
 non : Int
 code : ByteArray
def chT (c : Ch) : List Value := [.int .u64 (lim c.key 0), .int .u64 (lim c.key 1), .int .u64 (lim c.key 2), .int .u64 (lim c.key 3), .int .u64 (lim c.val 0), .int .u64 (lim c.val 1), .int .u64 (lim c.val 2), .int .u64 (lim c.val 3), .int .i64 c.non, .string c.code]
def chL (c : Ch) : List Value := .int .i64 c.kind :: (adL c.at_ ++ chT c)
def chC (c : Ch) : Array Value := (chL c).toArray
theorem chL_len (c : Ch) : (chL c).length = 31 := by simp [chL, chT, adL_len]
theorem chC_size (c : Ch) : (chC c).size = 31 := by simp [chC, chL_len]
theorem chC_more (c : Ch) (j : Nat) : (chC c)[21 + j]? = (chT c)[j]? := by
 unfold chC chL
 rw [List.getElem?_toArray, show 21 + j = (20 + j) + 1 by omega, List.getElem?_cons_succ, List.getElem?_append_right (by rw [adL_len]; omega), adL_len, Nat.add_sub_cancel_left]
theorem chC_kind (c : Ch) : (chC c)[0]? = some (.int .i64 c.kind) := by
 unfold chC chL
 rw [List.getElem?_toArray]
 rfl
theorem chC_ad (c : Ch) (j : Nat) (h : j < 20) : (chC c)[1 + j]? = some (.int .u8 ((adB c.at_ j : Nat) : Int)) := by
 unfold chC chL
 rw [List.getElem?_toArray, show 1 + j = j + 1 by omega, List.getElem?_cons_succ, List.getElem?_append_left (by rw [adL_len]; exact h)]
 exact adL_at c.at_ j h
theorem chC_one (c : Ch) : (chC c).all (·.oneCell') = true := by
 rw [Array.all_eq_true_iff_forall_mem]
 intro u hu
 have hu' : u ∈ chL c := by simpa [chC] using hu
 unfold chL at hu'
 rcases List.mem_cons.1 hu' with rfl | hu'
 ·rfl
 ·rcases List.mem_append.1 hu' with h | h
  ·obtain ⟨i, _, rfl⟩ := List.mem_map.1 h
   rfl
  ·unfold chT at h
   simp only [List.mem_cons, List.not_mem_nil, or_false] at h
   rcases h with rfl | rfl | rfl | rfl | rfl | rfl | rfl | rfl | rfl | rfl
   all_goals rfl
structure ChOk (c : Ch) : Prop where
 kind : I64 c.kind
 at_ : c.at_ < 256 ^ 20
 key : W256 c.key
 val : W256 c.val
 non : I64 c.non
 code : c.code.size ≤ 140737488355328
theorem infoCh : (Tryz.prog.info? 33).map (·.size) = some 31 := by kernel_rfl
theorem Has.ch {W : World} {B : Nat} {c : Ch} (h : Has W B 33 (chC c)) : W.cell? ⟨B, 0, none⟩ = some (.int .i64 c.kind) ∧ W.cell? ⟨B, 21, none⟩ = some (.int .u64 (lim c.key 0)) ∧ W.cell? ⟨B, 22, none⟩ = some (.int .u64 (lim c.key 1)) ∧ W.cell? ⟨B, 23, none⟩ = some (.int .u64 (lim c.key 2)) ∧ W.cell? ⟨B, 24, none⟩ = some (.int .u64 (lim c.key 3)) ∧
  W.cell? ⟨B, 25, none⟩ = some (.int .u64 (lim c.val 0)) ∧ W.cell? ⟨B, 26, none⟩ = some (.int .u64 (lim c.val 1)) ∧ W.cell? ⟨B, 27, none⟩ = some (.int .u64 (lim c.val 2)) ∧ W.cell? ⟨B, 28, none⟩ = some (.int .u64 (lim c.val 3)) ∧ W.cell? ⟨B, 29, none⟩ = some (.int .i64 c.non) ∧ W.cell? ⟨B, 30, none⟩ = some (.string c.code) :=
 ⟨h.cell 0 _ (chC_kind c), h.cell 21 _ (chC_more c 0), h.cell 22 _ (chC_more c 1), h.cell 23 _ (chC_more c 2), h.cell 24 _ (chC_more c 3), h.cell 25 _ (chC_more c 4), h.cell 26 _ (chC_more c 5), h.cell 27 _ (chC_more c 6), h.cell 28 _ (chC_more c 7), h.cell 29 _ (chC_more c 8), h.cell 30 _ (chC_more c 9)⟩
theorem Has.chLoad {W : World} {B : Nat} {c : Ch} (h : Has W B 33 (chC c)) : (loadVar 33 ⟨B, 0, none⟩).run Tryz.prog W = .ok (.agg (chC c)) W :=
 run_loadVar_row _ _ _ _ _ (0, 0) _ h Tryz.underlying33 rfl (by rw [chC_size]; exact infoCh)
theorem Has.chAdLoad {W : World} {B : Nat} {c : Ch} (h : Has W B 33 (chC c)) : (loadVar 25 ⟨B, 1, none⟩).run Tryz.prog W = .ok (.agg (adC c.at_)) W :=
 run_loadVar_at W ⟨B, 1, none⟩ _ (adL c.at_) _ (fun j v hj => by
  have hj20 : j < 20 := by
   have := (List.getElem?_eq_some_iff.1 hj).1
   rwa [adL_len] at this
  rw [adL_at _ j hj20] at hj
  rw [← hj, add_lit]
  exact h.cell (1 + j) _ (chC_ad c j hj20)) Tryz.underlying25 rfl (by rw [adL_len]; exact infoAd)
theorem acC_bal (x : Ac) (sv : Value) (v : Nat) : ((((acC x sv).setIfInBounds 20 (.int .u64 (lim v 0))).setIfInBounds 21 (.int .u64 (lim v 1))).setIfInBounds 22 (.int .u64 (lim v 2))).setIfInBounds 23 (.int .u64 (lim v 3)) = acC { x with bal := v } sv := by
 unfold acC
 simp only [List.setIfInBounds_toArray]
 unfold acL
 have e : ∀ (l : List Value) (j : Nat) (u : Value), (adL x.at_ ++ l).set (20 + j) u = adL x.at_ ++ l.set j u := fun l j u => by
  rw [List.set_append_right _ _ (by rw [adL_len]; omega), adL_len, Nat.add_sub_cancel_left]
 rw [e _ 0, e _ 1, e _ 2, e _ 3]
 rfl
theorem acC_non (x : Ac) (sv : Value) (v : Int) : (acC x sv).setIfInBounds 24 (.int .i64 v) = acC { x with non := v } sv := by
 unfold acC
 simp only [List.setIfInBounds_toArray]
 unfold acL
 rw [List.set_append_right _ _ (by rw [adL_len]; omega), adL_len]
 rfl
theorem acC_code (x : Ac) (sv : Value) (v : ByteArray) : (acC x sv).setIfInBounds 25 (.string v) = acC { x with code := v } sv := by
 unfold acC
 simp only [List.setIfInBounds_toArray]
 unfold acL
 rw [List.set_append_right _ _ (by rw [adL_len]; omega), adL_len]
 rfl
theorem acC_slots (x : Ac) (sv v : Value) (l : List Sl) : (acC x sv).setIfInBounds 26 v = acC { x with slots := l } v := by
 rw [acC_set]
 rfl
theorem chC_set (c : Ch) (j : Nat) (v : Value) : (chC c).setIfInBounds (21 + j) v = (.int .i64 c.kind :: (adL c.at_ ++ (chT c).set j v)).toArray := by
 unfold chC chL
 rw [List.setIfInBounds_toArray, show 21 + j = (20 + j) + 1 by omega, List.set_cons_succ, List.set_append_right _ _ (by rw [adL_len]; omega), adL_len, Nat.add_sub_cancel_left]
theorem row_set (k : Value) (ad l : List Value) (h : ad.length = 20) (j : Nat) (v : Value) : ((k :: (ad ++ l)).toArray).setIfInBounds (21 + j) v = (k :: (ad ++ l.set j v)).toArray := by
 rw [List.setIfInBounds_toArray, show 21 + j = (20 + j) + 1 by omega, List.set_cons_succ, List.set_append_right _ _ (by omega), h, Nat.add_sub_cancel_left]
theorem chC_key (c : Ch) (v : Nat) : ((((chC c).setIfInBounds 21 (.int .u64 (lim v 0))).setIfInBounds 22 (.int .u64 (lim v 1))).setIfInBounds 23 (.int .u64 (lim v 2))).setIfInBounds 24 (.int .u64 (lim v 3)) = chC { c with key := v } := by
 rw [chC_set c 0, row_set _ _ _ (adL_len _) 1, row_set _ _ _ (adL_len _) 2, row_set _ _ _ (adL_len _) 3]
 rfl
theorem chC_val (c : Ch) (v : Nat) : ((((chC c).setIfInBounds 25 (.int .u64 (lim v 0))).setIfInBounds 26 (.int .u64 (lim v 1))).setIfInBounds 27 (.int .u64 (lim v 2))).setIfInBounds 28 (.int .u64 (lim v 3)) = chC { c with val := v } := by
 rw [chC_set c 4, row_set _ _ _ (adL_len _) 5, row_set _ _ _ (adL_len _) 6, row_set _ _ _ (adL_len _) 7]
 rfl
theorem chC_non (c : Ch) (v : Int) : (chC c).setIfInBounds 29 (.int .i64 v) = chC { c with non := v } := by
 rw [chC_set c 8]
 rfl
theorem chC_code (c : Ch) (v : ByteArray) : (chC c).setIfInBounds 30 (.string v) = chC { c with code := v } := by
 rw [chC_set c 9]
 rfl
theorem Has.accBal {W : World} {B : Nat} {x : Ac} {sv : Value} (h : Has W B 31 (acC x sv)) (v : Nat) : Has ((((W.setCell ⟨B, 20, none⟩ (.int .u64 (lim v 0))).setCell ⟨B, 21, none⟩ (.int .u64 (lim v 1))).setCell ⟨B, 22, none⟩ (.int .u64 (lim v 2))).setCell ⟨B, 23, none⟩ (.int .u64 (lim v 3))) B 31 (acC { x with bal := v } sv) := by
 have := (((h.set 20 (.int .u64 (lim v 0))).set 21 (.int .u64 (lim v 1))).set 22 (.int .u64 (lim v 2))).set 23 (.int .u64 (lim v 3))
 rwa [acC_bal] at this
theorem Has.chVal {W : World} {B : Nat} {c : Ch} (h : Has W B 33 (chC c)) (v : Nat) : Has ((((W.setCell ⟨B, 25, none⟩ (.int .u64 (lim v 0))).setCell ⟨B, 26, none⟩ (.int .u64 (lim v 1))).setCell ⟨B, 27, none⟩ (.int .u64 (lim v 2))).setCell ⟨B, 28, none⟩ (.int .u64 (lim v 3))) B 33 (chC { c with val := v }) := by
 have := (((h.set 25 (.int .u64 (lim v 0))).set 26 (.int .u64 (lim v 1))).set 27 (.int .u64 (lim v 2))).set 28 (.int .u64 (lim v 3))
 rwa [chC_val] at this
theorem Has.chKey {W : World} {B : Nat} {c : Ch} (h : Has W B 33 (chC c)) (v : Nat) : Has ((((W.setCell ⟨B, 21, none⟩ (.int .u64 (lim v 0))).setCell ⟨B, 22, none⟩ (.int .u64 (lim v 1))).setCell ⟨B, 23, none⟩ (.int .u64 (lim v 2))).setCell ⟨B, 24, none⟩ (.int .u64 (lim v 3))) B 33 (chC { c with key := v }) := by
 have := (((h.set 21 (.int .u64 (lim v 0))).set 22 (.int .u64 (lim v 1))).set 23 (.int .u64 (lim v 2))).set 24 (.int .u64 (lim v 3))
 rwa [chC_key] at this
theorem Has.accNon {W : World} {B : Nat} {x : Ac} {sv : Value} (h : Has W B 31 (acC x sv)) (v : Int) : Has (W.setCell ⟨B, 24, none⟩ (.int .i64 v)) B 31 (acC { x with non := v } sv) := by
 have := h.set 24 (.int .i64 v)
 rwa [acC_non] at this
theorem Has.accCode {W : World} {B : Nat} {x : Ac} {sv : Value} (h : Has W B 31 (acC x sv)) (v : ByteArray) : Has (W.setCell ⟨B, 25, none⟩ (.string v)) B 31 (acC { x with code := v } sv) := by
 have := h.set 25 (.string v)
 rwa [acC_code] at this
theorem Has.chNon {W : World} {B : Nat} {c : Ch} (h : Has W B 33 (chC c)) (v : Int) : Has (W.setCell ⟨B, 29, none⟩ (.int .i64 v)) B 33 (chC { c with non := v }) := by
 have := h.set 29 (.int .i64 v)
 rwa [chC_non] at this
theorem Has.chCode {W : World} {B : Nat} {c : Ch} (h : Has W B 33 (chC c)) (v : ByteArray) : Has (W.setCell ⟨B, 30, none⟩ (.string v)) B 33 (chC { c with code := v }) := by
 have := h.set 30 (.string v)
 rwa [chC_code] at this
def KeepS (w : World) (sv : Value) (l : List Sl) : Prop := ∃ lo, RowT w lo sv l
theorem KeepS.later {w w' : World} {sv : Value} {l : List Sl} (h : KeepS w sv l) (hb : Below w.heap.size w w') : KeepS w' sv l := by
 obtain ⟨lo, h⟩ := h
 exact ⟨lo, h.later hb⟩
theorem KeepS.row {w : World} {sv : Value} {l : List Sl} (h : KeepS w sv l) {B : Nat} {t : TypeId} {cs : Array Value} (hB : Has w B t cs) (ht : t ≠ 63) (u : Array Value) : KeepS (w.setRow B u) sv l := by
 obtain ⟨lo, h⟩ := h
 refine ⟨lo, h.keep fun b c _ hb => (setRow_other w B b u (fun e => by
  subst e
  have := hB.symm.trans hb
  injection this with this
  injection this with _ this _
  exact absurd this ht)).trans hb⟩
def U13 (W : World) (B0 B2 B3 B4 : Nat) (x : Ac) (sv : Value) (u : Ch) (f : Nat → Bool) (_ : Nat → Value) (w : World) : Prop :=
 Below W.heap.size W w ∧ Has w B0 31 (acC x sv) ∧ Has w B4 33 (chC u) ∧ (f 3 = false → Has w B2 31 #[.int .u8 0, .int .u8 0, .int .u8 0, .int .u8 0, .int .u8 0, .int .u8 0, .int .u8 0, .int .u8 0, .int .u8 0, .int .u8 0, .int .u8 0, .int .u8 0, .int .u8 0, .int .u8 0, .int .u8 0, .int .u8 0, .int .u8 0, .int .u8 0, .int .u8 0, .int .u8 0, .int .u64 0, .int .u64 0, .int .u64 0, .int .u64 0, .int .i64 0, .string { data := #[] }, .slice none 0 0]) ∧ (f 3 = true → Has w B2 31 (acC x sv)) ∧ (f 4 = false → Has w B3 33 #[.int .i64 0, .int .u8 0, .int .u8 0, .int .u8 0, .int .u8 0, .int .u8 0, .int .u8 0, .int .u8 0, .int .u8 0, .int .u8 0, .int .u8 0, .int .u8 0, .int .u8 0, .int .u8 0, .int .u8 0, .int .u8 0, .int .u8 0, .int .u8 0, .int .u8 0, .int .u8 0, .int .u8 0, .int .u64 0, .int .u64 0, .int .u64 0, .int .u64 0, .int .u64 0, .int .u64 0, .int .u64 0, .int .u64 0, .int .i64 0, .string { data := #[] }]) ∧ (f 4 = true → Has w B3 33 (chC u)) ∧ KeepS w sv x.slots
theorem U13.later {W : World} {B0 B2 B3 B4 : Nat} {x : Ac} {sv : Value} {u : Ch} {f : Nat → Bool} {g : Nat → Value} {w w' : World} (h : U13 W B0 B2 B3 B4 x sv u f g w) (hb : Below w.heap.size w w') : U13 W B0 B2 B3 B4 x sv u f g w' := by
 obtain ⟨h1, h2, h3, h4, h5, h6, h7, h8⟩ := h
 exact ⟨h1.trans (hb.mono h1.size), h2.later hb, h3.later hb, fun e => (h4 e).later hb, fun e => (h5 e).later hb, fun e => (h6 e).later hb, fun e => (h7 e).later hb, h8.later hb⟩
theorem U13.same {W : World} {B0 B2 B3 B4 : Nat} {x : Ac} {sv : Value} {u : Ch} {f f' : Nat → Bool} {g g' : Nat → Value} {w : World} (h : U13 W B0 B2 B3 B4 x sv u f g w) (h3 : f 3 = f' 3) (h4 : f 4 = f' 4) : U13 W B0 B2 B3 B4 x sv u f' g' w := by
 unfold U13 at h ⊢
 rwa [h3, h4] at h
theorem U13.first {W : World} {B0 B2 B3 B4 : Nat} {x : Ac} {sv : Value} {u : Ch} {f : Nat → Bool} {g : Nat → Value} {w : World} (h : U13 W B0 B2 B3 B4 x sv u f g w) (h3 : f 3 = false) (h4 : f 4 = false) (hd : B2 ≠ B0 ∧ B2 ≠ B3 ∧ B2 ≠ B4 ∧ W.heap.size ≤ B2) (v : Value) : U13 W B0 B2 B3 B4 x sv u (upd f 3 true) (upd g 3 v) (w.setRow B2 (acC x sv)) := by
 obtain ⟨a1, a2, a3, a4, a5, a6, a7, a8⟩ := h
 refine ⟨below_rowAc a1 hd.2.2.2 _, (setRow_other w B2 B0 _ hd.1.symm).trans a2, (setRow_other w B2 B4 _ hd.2.2.1.symm).trans a3, (fun e => by simp [upd] at e), fun _ => setRow_heap _ _ _ _ _ _ (a4 h3), fun e => (setRow_other w B2 B3 _ hd.2.1.symm).trans (a6 h4), (fun e => by rw [upd_ne f true (by decide), h4] at e; cases e), a8.row (a4 h3) (by decide) _⟩
theorem U13.second {W : World} {B0 B2 B3 B4 : Nat} {x : Ac} {sv : Value} {u : Ch} {f : Nat → Bool} {g : Nat → Value} {w : World} (h : U13 W B0 B2 B3 B4 x sv u f g w) (h3 : f 3 = true) (h4 : f 4 = false) (hd : B3 ≠ B0 ∧ B3 ≠ B2 ∧ B3 ≠ B4 ∧ W.heap.size ≤ B3) (v : Value) : U13 W B0 B2 B3 B4 x sv u (upd f 4 true) (upd g 4 v) (w.setRow B3 (chC u)) := by
 obtain ⟨a1, a2, a3, a4, a5, a6, a7, a8⟩ := h
 refine ⟨below_rowAc a1 hd.2.2.2 _, (setRow_other w B3 B0 _ hd.1.symm).trans a2, (setRow_other w B3 B4 _ hd.2.2.1.symm).trans a3, (fun e => by rw [upd_ne f true (by decide), h3] at e; cases e), fun _ => (setRow_other w B3 B2 _ hd.2.1.symm).trans (a5 h3), (fun e => by simp [upd] at e), fun _ => setRow_heap _ _ _ _ _ _ (a6 h4), a8.row (a6 h4) (by decide) _⟩
def U5 (W : World) (B0 B1 B2 B3 B4 : Nat) (x x' : Ac) (sv : Value) (c u u' : Ch) (f : Nat → Bool) (_ : Nat → Value) (w : World) : Prop :=
 Below W.heap.size W w ∧ Has w B1 33 (chC c) ∧ Has w B2 31 #[.int .u8 0, .int .u8 0, .int .u8 0, .int .u8 0, .int .u8 0, .int .u8 0, .int .u8 0, .int .u8 0, .int .u8 0, .int .u8 0, .int .u8 0, .int .u8 0, .int .u8 0, .int .u8 0, .int .u8 0, .int .u8 0, .int .u8 0, .int .u8 0, .int .u8 0, .int .u8 0, .int .u64 0, .int .u64 0, .int .u64 0, .int .u64 0, .int .i64 0, .string { data := #[] }, .slice none 0 0] ∧ Has w B3 33 #[.int .i64 0, .int .u8 0, .int .u8 0, .int .u8 0, .int .u8 0, .int .u8 0, .int .u8 0, .int .u8 0, .int .u8 0, .int .u8 0, .int .u8 0, .int .u8 0, .int .u8 0, .int .u8 0, .int .u8 0, .int .u8 0, .int .u8 0, .int .u8 0, .int .u8 0, .int .u8 0, .int .u8 0, .int .u64 0, .int .u64 0, .int .u64 0, .int .u64 0, .int .u64 0, .int .u64 0, .int .u64 0, .int .u64 0, .int .i64 0, .string { data := #[] }] ∧ (f 5 = false → Has w B4 33 (chC u)) ∧ (f 5 = true → Has w B4 33 (chC u')) ∧ (f 7 = false → Has w B0 31 (acC x sv)) ∧ (f 7 = true → Has w B0 31 (acC x' sv))
theorem U5.later {W : World} {B0 B1 B2 B3 B4 : Nat} {x x' : Ac} {sv : Value} {c u u' : Ch} {f : Nat → Bool} {g : Nat → Value} {w w' : World} (h : U5 W B0 B1 B2 B3 B4 x x' sv c u u' f g w) (hb : Below w.heap.size w w') : U5 W B0 B1 B2 B3 B4 x x' sv c u u' f g w' := by
 obtain ⟨h1, h2, h3, h4, h5, h6, h7, h8⟩ := h
 exact ⟨h1.trans (hb.mono h1.size), h2.later hb, h3.later hb, h4.later hb, fun e => (h5 e).later hb, fun e => (h6 e).later hb, fun e => (h7 e).later hb, fun e => (h8 e).later hb⟩
theorem U5.same {W : World} {B0 B1 B2 B3 B4 : Nat} {x x' : Ac} {sv : Value} {c u u' : Ch} {f f' : Nat → Bool} {g g' : Nat → Value} {w : World} (h : U5 W B0 B1 B2 B3 B4 x x' sv c u u' f g w) (h5 : f 5 = f' 5) (h7 : f 7 = f' 7) : U5 W B0 B1 B2 B3 B4 x x' sv c u u' f' g' w := by
 unfold U5 at h ⊢
 rwa [h5, h7] at h
def OnlyB (w w' : World) (B : Nat) : Prop := Below B w w' ∧ w'.heap.size = w.heap.size ∧ ∀ k, k ≠ B → w'.heap[k]? = w.heap[k]?
theorem OnlyB.setCell {w w' : World} {B : Nat} (h : OnlyB w w' B) (o : Nat) (v : Value) : OnlyB w (w'.setCell ⟨B, o, none⟩ v) B :=
 ⟨Below.setCell h.1 (p := ⟨B, o, none⟩) (Nat.le_refl _) v, by rw [← h.2.1]; exact World.size_setCell .., fun k hk => (Below.heap_setCell w' ⟨B, o, none⟩ v k (fun e => hk e)).trans (h.2.2 k hk)⟩
theorem OnlyB.refl (w : World) (B : Nat) : OnlyB w w B := ⟨Below.refl _ _, rfl, fun _ _ => rfl⟩
theorem OnlyB.has {w w' : World} {B C : Nat} {t : TypeId} {cs : Array Value} (h : OnlyB w w' B) (hc : Has w C t cs) (hne : C ≠ B) : Has w' C t cs := (h.2.2 C hne).trans hc
theorem U5.first {W : World} {B0 B1 B2 B3 B4 : Nat} {x x' : Ac} {sv : Value} {c u u' : Ch} {f : Nat → Bool} {g : Nat → Value} {w w' : World} (h : U5 W B0 B1 B2 B3 B4 x x' sv c u u' f g w) (h7 : f 7 = false) (ho : OnlyB w w' B4) (hn : Has w' B4 33 (chC u')) (hd : B0 ≠ B4 ∧ B1 ≠ B4 ∧ B2 ≠ B4 ∧ B3 ≠ B4 ∧ W.heap.size ≤ B4) (v : Value) : U5 W B0 B1 B2 B3 B4 x x' sv c u u' (upd f 5 true) (upd g 5 v) w' := by
 obtain ⟨a1, a2, a3, a4, a5, a6, a7, a8⟩ := h
 exact ⟨a1.trans (ho.1.mono hd.2.2.2.2), ho.has a2 hd.2.1, ho.has a3 hd.2.2.1, ho.has a4 hd.2.2.2.1, (fun e => by simp [upd] at e), fun _ => hn, fun e => ho.has (a7 h7) hd.1, (fun e => by rw [upd_ne f true (by decide), h7] at e; cases e)⟩
theorem U5.second {W : World} {B0 B1 B2 B3 B4 : Nat} {x x' : Ac} {sv : Value} {c u u' : Ch} {f : Nat → Bool} {g : Nat → Value} {w w' : World} (h : U5 W B0 B1 B2 B3 B4 x x' sv c u u' f g w) (h5 : f 5 = true) (ho : OnlyB w w' B0) (hn : Has w' B0 31 (acC x' sv)) (hd : B1 ≠ B0 ∧ B2 ≠ B0 ∧ B3 ≠ B0 ∧ B4 ≠ B0 ∧ W.heap.size ≤ B0) (v : Value) : U5 W B0 B1 B2 B3 B4 x x' sv c u u' (upd f 7 true) (upd g 7 v) w' := by
 obtain ⟨a1, a2, a3, a4, a5, a6, a7, a8⟩ := h
 exact ⟨a1.trans (ho.1.mono hd.2.2.2.2), ho.has a2 hd.1, ho.has a3 hd.2.1, ho.has a4 hd.2.2.1, (fun e => by rw [upd_ne f true (by decide), h5] at e; cases e), fun _ => ho.has (a6 h5) hd.2.2.2.1, (fun e => by simp [upd] at e), fun _ => hn⟩
end Go.Proofs.YtkicmbdjihjgfaaGreatDoor
