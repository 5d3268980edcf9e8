/- Part. -/
import Derived.Test.YtnkhmgmganejmaaGreatDoorG06
import Derived.Test.YtnkhmgmganejmaaGreatDoorG22
set_option maxRecDepth 100000
set_option maxHeartbeats 16000000
namespace Go.Proofs.YtnkhmgmganejmaaGreatDoor.Late
open Go Go.RowKit Go.BigFrame
section
variable {P : Program} {md : Region.Mode}
structure GhostOk (md : Region.Mode) (l : List Oper) (deps : List (List Nat)) : Prop where
 sel : ∀ (j : Nat) (o : Oper) cs b, l[j]? = some o → o.op ≠ .select cs b
 edges : ∀ (j : Nat) (oj : Oper), l[j]? = some oj → ∀ e ∈ oj.after, Region.binds md e = true → e.on < j
 told : ∀ i, i < l.length → ∀ j ∈ deps.getD i [], j < i ∧ ∃ k, Region.waitsFor md l.toArray i k = true ∧ (j = k ∨ j ∈ deps.getD k [])
 looks : ∀ (i j : Nat) (oi oj : Oper), l[i]? = some oi → l[j]? = some oj → ∀ d, oj.dst = some d → d ∈ oi.looksAt l.toArray → j ∈ deps.getD i [] ∨ i ∈ deps.getD j []
 dsts : ∀ (i j : Nat) (oi oj : Oper), l[i]? = some oi → l[j]? = some oj → j ≠ i → ∀ d, oi.dst = some d → oj.dst ≠ some d
def ghostOne (md : Region.Mode) (l : List Oper) (deps : List (List Nat)) (i : Nat) (oi : Oper) : Bool :=
 (oi.after.all fun e => !Region.binds md e || decide (e.on < i)) &&
 ((deps.getD i []).all fun j => decide (j < i) && ((List.range l.length).any fun k => Region.waitsFor md l.toArray i k && (j == k || (deps.getD k []).contains j))) &&
 ((List.range l.length).all fun j => match l[j]? with
  | none => true
  | some oj => match oj.dst with
   | none => true
   | some d => (!(oi.looksAt l.toArray).contains d || ((deps.getD i []).contains j || (deps.getD j []).contains i)) && (j == i || oi.dst != some d))
def ghostB (md : Region.Mode) (l : List Oper) (deps : List (List Nat)) : Bool :=
 Region.noSelect l.toArray &&
 ((List.range l.length).all fun i => match l[i]? with
  | none => true
  | some oi => ghostOne md l deps i oi)
theorem ghostOk {md : Region.Mode} {l : List Oper} {deps : List (List Nat)} (h : ghostB md l deps = true) : GhostOk md l deps := by
 unfold ghostB at h
 rw [Bool.and_eq_true] at h
 obtain ⟨h1, h2⟩ := h
 have key : ∀ i oi, l[i]? = some oi → ghostOne md l deps i oi = true := fun i oi hi => by
  have := List.all_eq_true.1 h2 i (List.mem_range.2 (List.getElem?_eq_some_iff.1 hi).1)
  simpa only [hi] using this
 have key1 : ∀ (i : Nat) (oi : Oper), l[i]? = some oi → (oi.after.all fun e => !Region.binds md e || decide (e.on < i)) = true := fun i oi hi => by
  have := key i oi hi
  unfold ghostOne at this
  rw [Bool.and_eq_true, Bool.and_eq_true] at this
  exact this.1.1
 have key2 : ∀ (i : Nat) (oi : Oper), l[i]? = some oi → ((deps.getD i []).all fun j => decide (j < i) && ((List.range l.length).any fun k => Region.waitsFor md l.toArray i k && (j == k || (deps.getD k []).contains j))) = true := fun i oi hi => by
  have := key i oi hi
  unfold ghostOne at this
  rw [Bool.and_eq_true, Bool.and_eq_true] at this
  exact this.1.2
 have key3 : ∀ (i : Nat) (oi : Oper) (j : Nat) (oj : Oper) (d : Tmp), l[i]? = some oi → l[j]? = some oj → oj.dst = some d → ((oi.looksAt l.toArray).contains d = true → ((deps.getD i []).contains j || (deps.getD j []).contains i) = true) ∧ (j ≠ i → oi.dst ≠ some d) := fun i oi j oj d hi hj hd => by
  have := key i oi hi
  unfold ghostOne at this
  rw [Bool.and_eq_true] at this
  have := List.all_eq_true.1 this.2 j (List.mem_range.2 (List.getElem?_eq_some_iff.1 hj).1)
  simp only [hj, hd] at this
  rw [Bool.and_eq_true] at this
  refine ⟨fun h => ?_, fun hne => ?_⟩
  ·have h1 := this.1
   rw [h] at h1
   simpa only [Bool.not_true, Bool.false_or] using h1
  ·have h2 := this.2
   rw [Bool.or_eq_true, beq_iff_eq, bne_iff_ne] at h2
   rcases h2 with h' | h'
   ·exact absurd h' hne
   ·exact h'
 refine ⟨fun j o cs b hj => Region.noSelect_spec h1 j o cs b (by simpa using hj), fun j oj hj e he hb => ?_, fun i hi j hj => ?_, fun i j oi oj hi hj d hd hin => ?_, fun i j oi oj hi hj hne d hd hd' => (key3 i oi j oj d hi hj hd').2 hne hd⟩
 ·have := Array.all_eq_true_iff_forall_mem.1 (key1 j oj hj) e he
  rw [hb] at this
  simpa using this
 ·have := List.all_eq_true.1 (key2 i l[i] (by simp [hi])) j hj
  rw [Bool.and_eq_true, decide_eq_true_eq] at this
  obtain ⟨k, _, hk⟩ := List.any_eq_true.1 this.2
  rw [Bool.and_eq_true, Bool.or_eq_true, beq_iff_eq, List.contains_iff_mem] at hk
  exact ⟨this.1, k, hk.1, hk.2⟩
 ·have h3 := (key3 i oi j oj d hi hj hd).1 (List.contains_iff_mem.2 hin)
  rw [Bool.or_eq_true, List.contains_iff_mem, List.contains_iff_mem] at h3
  exact h3
variable {ops : Array Oper} {c : List (Option Value)} {deps : List (List Nat)} {U : (Nat → Bool) → (Nat → Value) → World → Prop} {Q : Exit → Act → World → Prop} {f : Nat → Bool} {g : Nat → Value} {w : World}
variable {F : Fence} {m : Nat}
structure Held (md : Region.Mode) (l : List Oper) (c : List (Option Value)) (deps : List (List Nat)) (U : (Nat → Bool) → (Nat → Value) → World → Prop) (a0 : Act) (listed : Array Bool) (g : Nat → Value) (a : Act) (w : World) : Prop where
 closed : Closed md l.toArray listed
 act : a = putsG (fun j => listed.getD j false) g 0 l a0
 vals : ∀ j v, listed.getD j false = true → c.getD j none = some v → g j = v
 down : ∀ k, listed.getD k false = true → ∀ j ∈ deps.getD k [], listed.getD j false = true
 world : U (fun j => listed.getD j false) g w
theorem exists_ready' {l : List Oper} (hedges : ∀ (j : Nat) (oj : Oper), l[j]? = some oj → ∀ e ∈ oj.after, Region.binds md e = true → e.on < j) {listed : Array Bool} (hc : Closed md l.toArray listed) : ∀ i, listed.getD i true = false → ∃ j, j ∈ Region.ready md l.toArray listed := by
 intro i
 induction i using Nat.strongRecOn with
 | _ i ih =>
  intro hi
  by_cases h : ∃ oi, l.toArray[i]? = some oi ∧ ∃ e ∈ oi.after, Region.binds md e = true ∧ listed.getD e.on false = false
  ·obtain ⟨oi, hoi, e, he, hb, hf⟩ := h
   have hlt := hedges i oi (by simpa using hoi) e he hb
   have hil : i < listed.size := by
    rw [hc.1]; exact (Array.getElem?_eq_some_iff.1 hoi).1
   exact ih e.on hlt (getD_in (by omega) hf)
  ·refine ⟨i, mem_ready.2 ⟨hi, ?_⟩⟩
   have hil : i < l.toArray.size := by
    rw [← hc.1]
    rcases Nat.lt_or_ge i listed.size with h' | h'
    ·exact h'
    ·simp [Array.getElem?_eq_none h'] at hi
   refine ⟨l.toArray[i], by simp [], fun e he hb => ?_⟩
   cases hl : listed.getD e.on false with
   | true => rfl
   | false => exact absurd ⟨l.toArray[i], by simp [], e, he, hb, hl⟩ h
theorem ghost_main (hF : Free F) {l : List Oper} {a0 : Act} (ok : GhostOk md l deps) (hnd : ∀ o ∈ l, ∀ q, o.op ≠ .defer q)
  (hg : ∀ f g w w', U f g w → Below w.heap.size w w' → U f g w')
  (hi : ∀ f f' g g' w, (∀ j, c.getD j none = none → f j = f' j ∧ g j = g' j) → U f g w → U f' g' w)
  (hw : ∀ f g w, U f g w → (∀ k, f k = true → ∀ j ∈ deps.getD k [], f j = true) → GW P l.toArray c deps U Q f g w 0 l a0) :
  ∀ (fuel : Nat) (V : List Nat) (listed : Array Bool) (g : Nat → Value) (a : Act) (w : World), V.Nodup → (∀ i, i ∈ V ↔ listed.getD i true = false) → V.length = fuel → Held md l c deps U a0 listed g a w →
   wpAnyIn F m P md l.toArray Q fuel listed a w := by
 intro fuel
 induction fuel with
 | zero =>
  intro V listed g a w hV hVm hVl H
  have hnil : V = [] := List.eq_nil_of_length_eq_zero hVl
  subst hnil
  have hall : ∀ i, listed.getD i true = true := fun i => by
   cases hi : listed.getD i true with
   | true => rfl
   | false => have := (hVm i).2 hi; cases this
  have hallf : ∀ i, i < l.length → listed.getD i false = true := fun i hil => by
   cases hi : listed.getD i false with
   | true => rfl
   | false => have := getD_in (by rw [H.closed.1]; simpa using hil) hi; rw [hall] at this; cases this
  refine ⟨?_, ?_⟩
  ·apply List.eq_nil_iff_forall_not_mem.2
   intro j hj
   have := (mem_ready.1 hj).1
   rw [hall] at this; cases this
  ·have h0 : putsG (fun j => decide (j < 0)) (knownG c g) 0 l a0 = a0 := by
    rw [putsG_congr l 0 a0 (fun j => decide (j < 0)) (fun _ => false) (knownG c g) g (fun j _ _ => ⟨by simp, fun h => by simp at h⟩)]
    have : ∀ (t : List Oper) k, putsG (fun _ => false) g k t a0 = a0 := by
     intro t
     induction t with
     | nil => intro k; rfl
     | cons o t ih => intro k; simp only [putsG, Bool.false_eq_true, if_false]; exact ih _
    exact this l 0
   have hGW := hw _ _ _ H.world H.down
   rw [← h0] at hGW
   have := (GW.at ok.dsts l 0 (fun j => by simp) (by simp) (by rw [h0] at hGW ⊢; exact hGW)).2 hallf
   rw [H.act]
   rw [putsG_congr l 0 a0 (fun j => listed.getD j false) (fun j => decide (j < l.length)) g (knownG c g) (fun j _ hj => ⟨by rw [hallf j (by omega)]; simp; omega, fun hf => by
    unfold knownG
    cases hc : c.getD j none with
    | none => rfl
    | some v => rw [H.vals j v hf hc]; rfl⟩)]
   exact this
 | succ fuel ih =>
  intro V listed g a w hV hVm hVl H
  refine ⟨fun h0 => ?_, fun i hir => ?_⟩
  ·obtain ⟨j, hj⟩ : ∃ j, j ∈ V := by
    cases V with
    | nil => cases hVl
    | cons x r => exact ⟨x, by simp⟩
   obtain ⟨k, hk⟩ := exists_ready' ok.edges H.closed j ((hVm j).1 hj)
   rw [h0] at hk; cases hk
  ·obtain ⟨hun, oi, hoi, hall⟩ := mem_ready.1 hir
   have hoi' : l[i]? = some oi := by simpa using hoi
   have hilt : i < l.length := (List.getElem?_eq_some_iff.1 hoi').1
   have hiV : i ∈ V := (hVm i).2 hun
   have hV' : (V.erase i).Nodup := hV.erase i
   have hVm' : ∀ j, j ∈ V.erase i ↔ (listed.setIfInBounds i true).getD j true = false := fun j => by
    by_cases hji : j = i
    ·subst hji
     rw [getD_set_true']
     simp [hV.not_mem_erase]
    ·rw [List.mem_erase_of_ne hji, hVm j, getD_set_ne true (Ne.symm hji)]
   have hVl' : (V.erase i).length = fuel := by rw [List.length_erase_of_mem hiV, hVl]; rfl
   have hc' := H.closed.set hir
   have hom : oi ∈ l := List.mem_of_getElem? hoi'
   have hfi : listed.getD i false = false := getD_both hun
   have hdown : ∀ j ∈ deps.getD i [], listed.getD j false = true := fun j hj => by
    obtain ⟨_, k, hk, hjk⟩ := ok.told i hilt j hj
    have hlk := ready_waits hir hk
    rcases hjk with rfl | hjk
    ·exact hlk
    ·exact H.down k hlk j hjk
   have hflag : (fun j => (listed.setIfInBounds i true).getD j false) = upd (fun j => listed.getD j false) i true := by
    funext j
    by_cases hji : j = i
    ·subst hji
     rw [upd_self]
     have : j < listed.size := by rw [H.closed.1]; simpa using hilt
     simp [this]
    ·rw [upd_ne _ _ hji, getD_set_ne false (Ne.symm hji)]
   -- the frame as the walk has it
   let A := putsG (fun j => decide (j < i)) (knownG c g) 0 l a0
   have hA : A = putsG (fun j => decide (j < i)) (knownG c g) 0 l a0 := rfl
   have h0 : putsG (fun j => decide (j < 0)) (knownG c g) 0 l a0 = a0 := by
    rw [putsG_congr l 0 a0 (fun j => decide (j < 0)) (fun _ => false) (knownG c g) g (fun j _ _ => ⟨by simp, fun h => by simp at h⟩)]
    have : ∀ (t : List Oper) k, putsG (fun _ => false) g k t a0 = a0 := by
     intro t
     induction t with
     | nil => intro k; rfl
     | cons o t ih => intro k; simp only [putsG, Bool.false_eq_true, if_false]; exact ih _
    exact this l 0
   have hGW := hw _ _ _ H.world H.down
   have hW := (GW.at (a0 := a0) ok.dsts l 0 (fun j => by simp) (by simp) (by rw [h0]; exact hGW)).1 i oi (Nat.zero_le _) hoi' hdown hfi
   rw [← hA] at hW
   have hsz : A.tmps.size = a.tmps.size := by rw [hA, H.act, putsG_size, putsG_size]
   have htm : ∀ t ∈ oi.looksAt l.toArray, a.tmps[t]? = A.tmps[t]? := fun t ht => by
    rw [hA, H.act]
    refine putsG_agree l 0 a0 a0 _ _ _ _ t rfl rfl (fun j oj hj hd => ?_)
    rw [Nat.zero_add]
    rcases ok.looks i j oi oj hoi' hj t hd ht with hjd | hjd
    rotate_left
    ·have hjl : j < l.length := (List.getElem?_eq_some_iff.1 hj).1
     have hij := (ok.told j hjl i hjd).1
     have hnl : listed.getD j false = false := by
      cases hl : listed.getD j false with
      | false => rfl
      | true => have := H.down j hl i hjd; rw [hfi] at this; cases this
     exact ⟨by show listed.getD j false = decide (j < i); rw [hnl, decide_eq_false (by omega)], fun h => by rw [hnl] at h; cases h⟩
    have hlj := hdown j hjd
    have hji := (ok.told i hilt j hjd).1
    refine ⟨by show listed.getD j false = decide (j < i); rw [hlj, decide_eq_true hji], fun _ => ?_⟩
    unfold knownG
    cases hc : c.getD j none with
    | none => rfl
    | some v => rw [H.vals j v hlj hc]; rfl
   have hex : execOp a.eval oi = execOp A.eval oi := exec_same oi (fun cs b => ok.sel i oi cs b hoi') a A htm
   have hwn : Region.wanted oi (yielded l.toArray a.tmps) = Region.wanted oi (yielded l.toArray A.tmps) := wanted_same oi a A htm
   have hadA : A.defers = a.defers := by rw [hA, H.act, putsG_defers, putsG_defers]
   -- what comes behind
   have next : ∀ (ds : List Deferred) (v : Value) (w' : World), onceC A oi (fun u w' => match c.getD i none with | some v => u = v ∧ Below w.heap.size w w' | none => U (upd (fun j => listed.getD j false) i true) (upd g i u) w') .normal ((Act.deferring A ds).put oi.dst v) w' →
     wpAnyIn F m P md l.toArray Q fuel (listed.setIfInBounds i true) ((Act.deferring a ds).put oi.dst v) w' := fun ds v w' hnx => by
    obtain ⟨hds, hR⟩ := hnx
    rw [put_defers] at hds
    have hds' : ds = a.defers := by rw [← hadA]; exact hds
    subst hds'
    have hg' : got oi ((Act.deferring A a.defers).put oi.dst v) = got oi (a.put oi.dst v) := got_put_same oi _ _ v hsz
    rw [hg'] at hR
    rw [deferring_self, ← put_got]
    refine ih (V.erase i) _ (upd g i (got oi (a.put oi.dst v))) _ w' hV' hVm' hVl' ⟨hc', ?_, ?_, ?_, ?_⟩
    ·rw [hflag, H.act]
     have := putsG_fire l 0 a0 i oi (got oi (a.put oi.dst v)) (fun j => listed.getD j false) g hoi' (by rw [Nat.zero_add]; exact hfi) (fun j oj hj hne => ok.dsts i j oi oj hoi' hj hne)
     rw [Nat.zero_add] at this
     rw [← H.act]
     rw [this, ← H.act]
    ·intro j v' hj hcj
     by_cases hji : j = i
     ·subst hji
      rw [upd_self]
      rw [hcj] at hR
      exact hR.1
     ·rw [getD_set_ne false (Ne.symm hji)] at hj
      rw [upd_ne _ _ hji]
      exact H.vals j v' hj hcj
    ·intro k hk j hj
     by_cases hki : k = i
     ·subst hki; exact getD_set_true (hdown j hj)
     ·rw [getD_set_ne false (Ne.symm hki)] at hk
      exact getD_set_true (H.down k hk j hj)
    ·rw [hflag]
     cases hc : c.getD i none with
     | none => rw [hc] at hR; exact hR
     | some v' =>
      rw [hc] at hR
      refine hi _ _ _ _ _ (fun j hj => ?_) (hg _ _ _ _ H.world hR.2)
      have hji : j ≠ i := fun e => by rw [e, hc] at hj; cases hj
      exact ⟨(upd_ne (fun j => listed.getD j false) true hji).symm, (upd_ne g _ hji).symm⟩
   unfold wpOpIn
   simp only [hoi]
   simp only [wpList] at hW
   rw [← hwn] at hW
   by_cases hwt : Region.wanted oi (yielded l.toArray a.tmps) = true
   ·rw [if_pos hwt] at hW
    rw [if_pos hwt]
    refine ⟨fun f _ => hF.fn f, ?_⟩
    rw [Oper.semAt_eq _ _ _ (hnd oi hom)]
    rcases hW with hW | ⟨_, hl⟩
    ·unfold Oper.wp at hW
     rw [← hex] at hW
     exact uponIn_frame hF hadA (fun ds v w' h => next ds v w' h) hW
    ·exact absurd hl (not_letsOut _)
   ·rw [if_neg hwt] at hW
    rw [if_neg hwt]
    refine ⟨fun f _ => hF.fn f, ?_⟩
    have := next A.defers undef w (by rw [deferring_self]; exact hW)
    rw [hadA, deferring_self] at this
    exact this
theorem wpIn_region_ghost (hF : Free F) (c : List (Option Value)) (deps : List (List Nat)) (U : (Nat → Bool) → (Nat → Value) → World → Prop) {id : Nat} {a : Act} {w : World} {l : List Oper} (hm : P.follows .mixedOrders = true) (hnd : noDefer l = true) (hB : ghostB .any l deps = true)
  (hg : ∀ f g w w', U f g w → Below w.heap.size w w' → U f g w')
  (hi : ∀ f f' g g' w, (∀ j, c.getD j none = none → f j = f' j ∧ g j = g' j) → U f g w → U f' g' w)
  (h0 : U (fun _ => false) (fun _ => undef) { w with drawn := w.drawn + 1 })
  (hw : ∀ f g w, U f g w → (∀ k, f k = true → ∀ j ∈ deps.getD k [], f j = true) → GW P l.toArray c deps U Q f g w 0 l a) : (Code.region id l.toArray true).wpIn F m P Q a w := by
 have ok := ghostOk hB
 refine wpIn_region_any hm ?_
 have hf0 : (fun j => (Array.replicate l.toArray.size false).getD j false) = fun _ => false := by funext j; exact getD_replicate_false _ _
 refine ghost_main hF ok (noDefer_spec hnd) hg hi hw l.toArray.size (List.range l.toArray.size) _ (fun _ => undef) a _ List.nodup_range (fun i => ?_) (by simp) ⟨⟨by simp, fun j oj _ hl => ?_⟩, ?_, fun j v hj => ?_, fun k hk => ?_, ?_⟩
 ·rw [List.mem_range]
  rcases Nat.lt_or_ge i l.toArray.size with h | h
  ·exact ⟨fun _ => getD_in (by simpa using h) (getD_replicate_false _ _), fun _ => h⟩
  ·refine ⟨fun h' => absurd h' (by omega), fun h' => ?_⟩
   simp only [List.size_toArray] at h
   simp [Array.getD, show ¬ i < l.length by omega] at h'
 ·rw [getD_replicate_false] at hl; cases hl
 ·rw [hf0]
  have : ∀ (t : List Oper) k, putsG (fun _ => false) (fun _ => undef) k t a = a := by
   intro t
   induction t with
   | nil => intro k; rfl
   | cons o t ih => intro k; simp only [putsG, Bool.false_eq_true, if_false]; exact ih _
  exact (this l 0).symm
 ·rw [getD_replicate_false] at hj; cases hj
 ·rw [getD_replicate_false] at hk; cases hk
 ·rw [hf0]; exact h0
theorem wp_region_ghost (c : List (Option Value)) (deps : List (List Nat)) (U : (Nat → Bool) → (Nat → Value) → World → Prop) {id : Nat} {a : Act} {w : World} {l : List Oper} (hm : P.follows .mixedOrders = true) (hnd : noDefer l = true) (hB : ghostB .any l deps = true)
  (hg : ∀ f g w w', U f g w → Below w.heap.size w w' → U f g w')
  (hi : ∀ f f' g g' w, (∀ j, c.getD j none = none → f j = f' j ∧ g j = g' j) → U f g w → U f' g' w)
  (h0 : U (fun _ => false) (fun _ => undef) { w with drawn := w.drawn + 1 })
  (hw : ∀ f g w, U f g w → (∀ k, f k = true → ∀ j ∈ deps.getD k [], f j = true) → GW P l.toArray c deps U Q f g w 0 l a) : (Code.region id l.toArray true).wp P Q a w :=
 wpIn_wide.1 (wpIn_region_ghost (m := 0) free_wide c deps U hm hnd hB hg hi h0 hw)
end
end Go.Proofs.YtnkhmgmganejmaaGreatDoor.Late
namespace Go.Proofs.YtnkhmgmganejmaaGreatDoor
open Go Go.RowKit
attribute [local go_sem] Oper.semAt_some Grows wide_fn
theorem pick_ret16 (c : Int) (hc : I64 c) (m : Int) (hm : 0 < m) (hm2 : m ≤ 4611686018427387903) : Ret Tryz.prog 9 #[.int .i64 c, .int .i64 m] (.int .i64 (pickN c m)) := by
 refine Ret.of_same fun w => ?_
 unfold I64 at hc
 unfold pickN
 by_cases h : c < 0
 ·rw [if_pos h]
  have h0 : (0 : Int) ≤ -(c + 1) := by omega
  have h1 : -(c + 1) < 9223372036854775808 := by omega
  have q0 := Int.emod_nonneg (-(c + 1)) (show m ≠ 0 by omega)
  have q1 := Int.emod_lt_of_pos (-(c + 1)) hm
  have e := Int.tmod_eq_emod_of_nonneg h0 (b := m)
  go_enter Tryz.func9, Tryz.ntmps9
  go_wp2
  go_ret
  exact ⟨rfl, rfl⟩
 ·rw [if_neg h]
  have q0 := Int.emod_nonneg c (show m ≠ 0 by omega)
  have q1 := Int.emod_lt_of_pos c hm
  have e := Int.tmod_eq_emod_of_nonneg (show 0 ≤ c by omega) (b := m)
  go_enter Tryz.func9, Tryz.ntmps9
  go_wp2
  go_ret
  exact ⟨rfl, rfl⟩
def chN (a b c i : Nat) : Nat := if i % 4 = 0 then a else if i % 4 = 1 then b else if i % 4 = 2 then c else i
def chL (a b c k : Nat) : List Nat := (List.range k).map (chN a b c)
theorem chL_succ (a b c k : Nat) : chL a b c (k + 1) = chL a b c k ++ [chN a b c k] := by unfold chL; rw [List.range_succ, List.map_append]; rfl
theorem chL_length (a b c k : Nat) : (chL a b c k).length = k := by simp [chL]
theorem ch_at (a b c k : Nat) : ∃ r : Nat, r < 4 ∧ (k : Int) % 4 = (r : Int) ∧ ([a, b, c, k] : List Nat)[r]? = some (chN a b c k) := by
 refine ⟨k % 4, Nat.mod_lt _ (by decide), by omega, ?_⟩
 unfold chN
 obtain h | h | h | h : k % 4 = 0 ∨ k % 4 = 1 ∨ k % 4 = 2 ∨ k % 4 = 3 := by omega
 all_goals rw [h]; rfl
theorem ch_lt (a b c k : Nat) (ha : W256 a) (hb : W256 b) (hc : W256 c) (hk : k ≤ 100000) : W256 (chN a b c k) := by
 unfold chN
 split
 ·exact ha
 ·split
  ·exact hb
  ·split
   ·exact hc
   ·unfold W256; omega
section CoKU
def UCh (i6 i9 i11 i12 i13 : Nat) (V W0 : World) (lst zl : List Nat) (zz r : Nat) (lv : Value) (f : Nat → Bool) (g : Nat → Value) (w : World) : Prop :=
 Below W0.heap.size W0 w ∧
 (f i12 = false → WdRow w W0.heap.size lv lst ∧ Below V.heap.size V w ∧ (f i6 = true → ∃ b : Nat, g i6 = .slice (some ⟨b, 0, none⟩) zl.length zl.length ∧ WdsAt w (.slice (some ⟨b, 0, none⟩) zl.length zl.length) zl) ∧
  (f i6 = true → f i9 = true → ∀ b : Nat, g i6 = .slice (some ⟨b, 0, none⟩) zl.length zl.length → g i9 = .pointer (some ⟨b, r * 4, none⟩)) ∧
  (f i11 = true → ∃ b : Nat, g i11 = .slice (some ⟨b, 0, none⟩) 1 1 ∧ WdsAt w (.slice (some ⟨b, 0, none⟩) 1 1) [zz])) ∧
 (f i12 = true → WdRow w W0.heap.size (g i12) (lst ++ [zz])) ∧ (f i13 = true → f i12 = true → g i13 = g i12)
variable {i6 i9 i11 i12 i13 : Nat} {V W0 : World} {lst zl : List Nat} {zz r : Nat} {lv : Value} {f : Nat → Bool} {g : Nat → Value} {w w' : World}
theorem UCh.start (_h1 : i6 ≠ i12) (_h2 : i9 ≠ i12) (_h3 : i11 ≠ i12) (_h4 : i13 ≠ i12) (hr : WdRow V W0.heap.size lv lst) (hq : Below W0.heap.size W0 V) : UCh i6 i9 i11 i12 i13 V W0 lst zl zz r lv (fun _ => false) (fun _ => undef) { V with drawn := V.drawn + 1 } :=
 ⟨hq.drew, fun _ => ⟨hr.later (Below.refl _ _).drew, (Below.refl _ _).drew, by simp, by simp, by simp⟩, by simp, by simp⟩
theorem UCh.later (h : UCh i6 i9 i11 i12 i13 V W0 lst zl zz r lv f g w) (hb : Below w.heap.size w w') : UCh i6 i9 i11 i12 i13 V W0 lst zl zz r lv f g w' := by
 obtain ⟨h1, h2, h3, h4⟩ := h
 refine ⟨h1.trans (hb.mono h1.size), fun k => ?_, fun k => (h3 k).later hb, h4⟩
 obtain ⟨a1, a2, a3, a4, a5⟩ := h2 k
 exact ⟨a1.later hb, a2.trans (hb.mono a2.size), fun k => let ⟨b, e, j⟩ := a3 k; ⟨b, e, j.later hb⟩, a4, fun k => let ⟨b, e, j⟩ := a5 k; ⟨b, e, j.later hb⟩⟩
theorem UCh.same {f' : Nat → Bool} {g' : Nat → Value} (h : UCh i6 i9 i11 i12 i13 V W0 lst zl zz r lv f g w) (hh : ∀ j, j = i6 ∨ j = i9 ∨ j = i11 ∨ j = i12 ∨ j = i13 → f j = f' j ∧ g j = g' j) : UCh i6 i9 i11 i12 i13 V W0 lst zl zz r lv f' g' w := by
 unfold UCh at h ⊢
 rwa [(hh i6 (by simp)).1, (hh i6 (by simp)).2, (hh i9 (by simp)).1, (hh i9 (by simp)).2, (hh i11 (by simp)).1, (hh i11 (by simp)).2, (hh i12 (by simp)).1, (hh i12 (by simp)).2, (hh i13 (by simp)).1, (hh i13 (by simp)).2] at h
theorem UCh.g6 (h : UCh i6 i9 i11 i12 i13 V W0 lst zl zz r lv f g w) (h12 : f i12 = false) (h6 : f i6 = true) : ∃ b : Nat, g i6 = .slice (some ⟨b, 0, none⟩) zl.length zl.length ∧ WdsAt w (.slice (some ⟨b, 0, none⟩) zl.length zl.length) zl := (h.2.1 h12).2.2.1 h6
theorem UCh.g9 (h : UCh i6 i9 i11 i12 i13 V W0 lst zl zz r lv f g w) (h12 : f i12 = false) (h6 : f i6 = true) (h9 : f i9 = true) {b : Nat} (e : g i6 = .slice (some ⟨b, 0, none⟩) zl.length zl.length) : g i9 = .pointer (some ⟨b, r * 4, none⟩) := (h.2.1 h12).2.2.2.1 h6 h9 b e
theorem UCh.g11 (h : UCh i6 i9 i11 i12 i13 V W0 lst zl zz r lv f g w) (h12 : f i12 = false) (h11 : f i11 = true) : ∃ b : Nat, g i11 = .slice (some ⟨b, 0, none⟩) 1 1 ∧ WdsAt w (.slice (some ⟨b, 0, none⟩) 1 1) [zz] := (h.2.1 h12).2.2.2.2 h11
theorem UCh.base (h : UCh i6 i9 i11 i12 i13 V W0 lst zl zz r lv f g w) : W0.heap.size ≤ w.heap.size := h.1.size
theorem UCh.n6 (o : i6 ≠ i9) (o2 : i6 ≠ i11) (o3 : i6 ≠ i12) (o4 : i6 ≠ i13) (h : UCh i6 i9 i11 i12 i13 V W0 lst zl zz r lv f g w) (hb : Below w.heap.size w w') (h9 : f i9 = false) {b : Nat} (hk : WdsAt w' (.slice (some ⟨b, 0, none⟩) zl.length zl.length) zl) : UCh i6 i9 i11 i12 i13 V W0 lst zl zz r lv (upd f i6 true) (upd g i6 (.slice (some ⟨b, 0, none⟩) zl.length zl.length)) w' := by
 obtain ⟨h1, h2, h3, h4⟩ := h.later hb
 refine ⟨h1, ?_, by simpa [upd, Ne.symm o3] using h3, by simpa [upd, Ne.symm o3, Ne.symm o4] using h4⟩
 rw [upd_ne f true (Ne.symm o3)]
 intro k
 obtain ⟨a1, a2, a3, a4, a5⟩ := h2 k
 exact ⟨a1, a2, fun _ => ⟨b, upd_self _ _ _, hk⟩, (by intro _ e; rw [upd_ne f true (Ne.symm o), h9] at e; cases e), by simpa [upd, Ne.symm o2] using a5⟩
theorem UCh.n9 (o : i9 ≠ i6) (o2 : i9 ≠ i11) (o3 : i9 ≠ i12) (o4 : i9 ≠ i13) (h : UCh i6 i9 i11 i12 i13 V W0 lst zl zz r lv f g w) (_h6 : f i6 = true) {b : Nat} (e6 : g i6 = .slice (some ⟨b, 0, none⟩) zl.length zl.length) : UCh i6 i9 i11 i12 i13 V W0 lst zl zz r lv (upd f i9 true) (upd g i9 (.pointer (some ⟨b, r * 4, none⟩))) w := by
 obtain ⟨h1, h2, h3, h4⟩ := h
 refine ⟨h1, ?_, by simpa [upd, Ne.symm o3] using h3, by simpa [upd, Ne.symm o3, Ne.symm o4] using h4⟩
 rw [upd_ne f true (Ne.symm o3)]
 intro k
 obtain ⟨a1, a2, a3, a4, a5⟩ := h2 k
 refine ⟨a1, a2, by simpa [upd, Ne.symm o] using a3, fun _ _ b' e' => ?_, by simpa [upd, Ne.symm o2] using a5⟩
 rw [upd_ne g _ (Ne.symm o), e6] at e'
 rw [upd_self]
 injection e' with e1
 injection e1 with e1
 injection e1 with e1
 rw [e1]
theorem UCh.n11 (o : i11 ≠ i6) (o2 : i11 ≠ i9) (o3 : i11 ≠ i12) (o4 : i11 ≠ i13) (h : UCh i6 i9 i11 i12 i13 V W0 lst zl zz r lv f g w) (hb : Below w.heap.size w w') (_ : f i12 = false) {b : Nat} (hk : WdsAt w' (.slice (some ⟨b, 0, none⟩) 1 1) [zz]) : UCh i6 i9 i11 i12 i13 V W0 lst zl zz r lv (upd f i11 true) (upd g i11 (.slice (some ⟨b, 0, none⟩) 1 1)) w' := by
 obtain ⟨h1, h2, h3, h4⟩ := h.later hb
 refine ⟨h1, ?_, by simpa [upd, Ne.symm o3] using h3, by simpa [upd, Ne.symm o3, Ne.symm o4] using h4⟩
 rw [upd_ne f true (Ne.symm o3)]
 intro k
 obtain ⟨a1, a2, a3, a4, a5⟩ := h2 k
 exact ⟨a1, a2, by simpa [upd, Ne.symm o] using a3, by simpa [upd, Ne.symm o, Ne.symm o2] using a4, fun _ => ⟨b, upd_self _ _ _, hk⟩⟩
theorem UCh.n12 (_ : i12 ≠ i6) (_ : i12 ≠ i9) (_ : i12 ≠ i11) (o4 : i12 ≠ i13) (h : UCh i6 i9 i11 i12 i13 V W0 lst zl zz r lv f g w) (hf : f i13 = false) (hb : Below W0.heap.size w w') {v : Value} (hk : WdRow w' W0.heap.size v (lst ++ [zz])) : UCh i6 i9 i11 i12 i13 V W0 lst zl zz r lv (upd f i12 true) (upd g i12 v) w' := by
 refine ⟨h.1.trans hb, (by intro k; rw [upd_self] at k; cases k), (by intro _; rw [upd_self]; exact hk), (by intro k; rw [upd_ne f true (Ne.symm o4), hf] at k; cases k)⟩
theorem UCh.n13 (_o : i13 ≠ i6) (_o2 : i13 ≠ i9) (_o3 : i13 ≠ i11) (o4 : i13 ≠ i12) (h : UCh i6 i9 i11 i12 i13 V W0 lst zl zz r lv f g w) (h12 : f i12 = true) : UCh i6 i9 i11 i12 i13 V W0 lst zl zz r lv (upd f i13 true) (upd g i13 (g i12)) w := by
 obtain ⟨h1, h2, h3, h4⟩ := h
 refine ⟨h1, (by intro k; rw [upd_ne f true (Ne.symm o4), h12] at k; cases k), (by intro _; rw [upd_ne g _ (Ne.symm o4)]; exact h3 h12), (by intro _ _; rw [upd_self, upd_ne g _ (Ne.symm o4)])⟩
theorem UCh.end (h : UCh i6 i9 i11 i12 i13 V W0 lst zl zz r lv f g w) (h12 : f i12 = true) (h13 : f i13 = true) : g i13 = g i12 ∧ WdRow w W0.heap.size (g i12) (lst ++ [zz]) ∧ Below W0.heap.size W0 w := ⟨h.2.2.2 h13 h12, h.2.2.1 h12, h.1⟩
end CoKU
def poN (a b i : Nat) : Nat := if i % 3 = 0 then a else if i % 3 = 1 then b else i
def poL (a b k : Nat) : List Nat := (List.range k).map (poN a b)
theorem poL_succ (a b k : Nat) : poL a b (k + 1) = poL a b k ++ [poN a b k] := by unfold poL; rw [List.range_succ, List.map_append]; rfl
theorem poL_length (a b k : Nat) : (poL a b k).length = k := by simp [poL]
theorem po_at (a b k : Nat) : ∃ r : Nat, r < 3 ∧ (k : Int) % 3 = (r : Int) ∧ ([a, b, k] : List Nat)[r]? = some (poN a b k) := by
 refine ⟨k % 3, Nat.mod_lt _ (by decide), by omega, ?_⟩
 unfold poN
 obtain h | h | h : k % 3 = 0 ∨ k % 3 = 1 ∨ k % 3 = 2 := by omega
 all_goals rw [h]; rfl
theorem po_lt (a b k : Nat) (ha : W256 a) (hb : W256 b) (hk : k ≤ 100000) : W256 (poN a b k) := by
 unfold poN
 split
 ·exact ha
 ·split
  ·exact hb
  ·unfold W256; omega
theorem of_nat (k : Nat) (hk : k ≤ 100000) : Ret Tryz.prog 10 #[.int .i64 (k : Int)] (.agg #[.int .u64 (lim k 0), .int .u64 (lim k 1), .int .u64 (lim k 2), .int .u64 (lim k 3)]) :=
 (refOf_ret k (by unfold I64; omega)).of_eq rfl (by rw [ofN_nat]; rfl)
end Go.Proofs.YtnkhmgmganejmaaGreatDoor
