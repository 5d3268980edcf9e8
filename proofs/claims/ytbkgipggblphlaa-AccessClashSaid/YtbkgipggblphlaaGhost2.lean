/- The region that draws its order, once more: an operation may look at what a later one puts, when that one waits for it. -/
import Derived.Test.YtbkgipggblphlaaGhost
namespace Go.Proofs.Ytbkgipggblphlaa.Late
open Go Go.RowKit Go.BigFrame

section
variable {P : Program} {md : Region.Mode}
/-- The checks of a region: no select; what an operation waits for stands ahead of it; the told ones are waited for; what it looks at is told; no two put the same. -/
structure GhostOk (md : Region.Mode) (l : List Oper) (deps : List (List Nat)) : Prop where
  sel : ∀ (j : Nat) (o : Oper) cs b, l[j]? = some o → o.op ≠ .select cs b
  edges : ∀ (j : Nat) (oj : Oper), l[j]? = some oj → ∀ e ∈ oj.after, Region.binds md e = true → e.on < j
  told : ∀ i, i < l.length → ∀ j ∈ deps.getD i [], j < i ∧ ∃ k, Region.waitsFor md l.toArray i k = true ∧ (j = k ∨ j ∈ deps.getD k [])
  looks : ∀ (i j : Nat) (oi oj : Oper), l[i]? = some oi → l[j]? = some oj → ∀ d, oj.dst = some d → d ∈ oi.looksAt l.toArray → j ∈ deps.getD i [] ∨ i ∈ deps.getD j []
  dsts : ∀ (i j : Nat) (oi oj : Oper), l[i]? = some oi → l[j]? = some oj → j ≠ i → ∀ d, oi.dst = some d → oj.dst ≠ some d

def ghostOne (md : Region.Mode) (l : List Oper) (deps : List (List Nat)) (i : Nat) (oi : Oper) : Bool :=
  (oi.after.all fun e => !Region.binds md e || decide (e.on < i)) &&
  ((deps.getD i []).all fun j => decide (j < i) && ((List.range l.length).any fun k => Region.waitsFor md l.toArray i k && (j == k || (deps.getD k []).contains j))) &&
  ((List.range l.length).all fun j => match l[j]? with
    | none => true
    | some oj => match oj.dst with
      | none => true
      | some d => (!(oi.looksAt l.toArray).contains d || ((deps.getD i []).contains j || (deps.getD j []).contains i)) && (j == i || oi.dst != some d))

def ghostB (md : Region.Mode) (l : List Oper) (deps : List (List Nat)) : Bool :=
  Region.noSelect l.toArray &&
  ((List.range l.length).all fun i => match l[i]? with
    | none => true
    | some oi => ghostOne md l deps i oi)

theorem ghostOk {md : Region.Mode} {l : List Oper} {deps : List (List Nat)} (h : ghostB md l deps = true) : GhostOk md l deps := by
  unfold ghostB at h
  rw [Bool.and_eq_true] at h
  obtain ⟨h1, h2⟩ := h
  have key : ∀ i oi, l[i]? = some oi → ghostOne md l deps i oi = true := fun i oi hi => by
    have := List.all_eq_true.1 h2 i (List.mem_range.2 (List.getElem?_eq_some_iff.1 hi).1)
    simpa only [hi] using this
  have key1 : ∀ (i : Nat) (oi : Oper), l[i]? = some oi → (oi.after.all fun e => !Region.binds md e || decide (e.on < i)) = true := fun i oi hi => by
    have := key i oi hi
    unfold ghostOne at this
    rw [Bool.and_eq_true, Bool.and_eq_true] at this
    exact this.1.1
  have key2 : ∀ (i : Nat) (oi : Oper), l[i]? = some oi → ((deps.getD i []).all fun j => decide (j < i) && ((List.range l.length).any fun k => Region.waitsFor md l.toArray i k && (j == k || (deps.getD k []).contains j))) = true := fun i oi hi => by
    have := key i oi hi
    unfold ghostOne at this
    rw [Bool.and_eq_true, Bool.and_eq_true] at this
    exact this.1.2
  have key3 : ∀ (i : Nat) (oi : Oper) (j : Nat) (oj : Oper) (d : Tmp), l[i]? = some oi → l[j]? = some oj → oj.dst = some d → ((oi.looksAt l.toArray).contains d = true → ((deps.getD i []).contains j || (deps.getD j []).contains i) = true) ∧ (j ≠ i → oi.dst ≠ some d) := fun i oi j oj d hi hj hd => by
    have := key i oi hi
    unfold ghostOne at this
    rw [Bool.and_eq_true] at this
    have := List.all_eq_true.1 this.2 j (List.mem_range.2 (List.getElem?_eq_some_iff.1 hj).1)
    simp only [hj, hd] at this
    rw [Bool.and_eq_true] at this
    refine ⟨fun h => ?_, fun hne => ?_⟩
    · have h1 := this.1
      rw [h] at h1
      simpa only [Bool.not_true, Bool.false_or] using h1
    · have h2 := this.2
      rw [Bool.or_eq_true, beq_iff_eq, bne_iff_ne] at h2
      rcases h2 with h' | h'
      · exact absurd h' hne
      · exact h'
  refine ⟨fun j o cs b hj => Region.noSelect_spec h1 j o cs b (by simpa using hj), fun j oj hj e he hb => ?_, fun i hi j hj => ?_, fun i j oi oj hi hj d hd hin => ?_, fun i j oi oj hi hj hne d hd hd' => (key3 i oi j oj d hi hj hd').2 hne hd⟩
  · have := Array.all_eq_true_iff_forall_mem.1 (key1 j oj hj) e he
    rw [hb] at this
    simpa using this
  · have := List.all_eq_true.1 (key2 i l[i] (by simp [hi])) j hj
    rw [Bool.and_eq_true, decide_eq_true_eq] at this
    obtain ⟨k, _, hk⟩ := List.any_eq_true.1 this.2
    rw [Bool.and_eq_true, Bool.or_eq_true, beq_iff_eq, List.contains_iff_mem] at hk
    exact ⟨this.1, k, hk.1, hk.2⟩
  · have h3 := (key3 i oi j oj d hi hj hd).1 (List.contains_iff_mem.2 hin)
    rw [Bool.or_eq_true, List.contains_iff_mem, List.contains_iff_mem] at h3
    exact h3


variable {ops : Array Oper} {c : List (Option Value)} {deps : List (List Nat)} {U : (Nat → Bool) → (Nat → Value) → World → Prop} {Q : Exit → Act → World → Prop} {f : Nat → Bool} {g : Nat → Value} {w : World}


variable {F : Fence} {m : Nat}

/-- What holds between two operations, whatever has come up. -/
structure Held (md : Region.Mode) (l : List Oper) (c : List (Option Value)) (deps : List (List Nat)) (U : (Nat → Bool) → (Nat → Value) → World → Prop) (a0 : Act) (listed : Array Bool) (g : Nat → Value) (a : Act) (w : World) : Prop where
  closed : Closed md l.toArray listed
  act : a = putsG (fun j => listed.getD j false) g 0 l a0
  vals : ∀ j v, listed.getD j false = true → c.getD j none = some v → g j = v
  down : ∀ k, listed.getD k false = true → ∀ j ∈ deps.getD k [], listed.getD j false = true
  world : U (fun j => listed.getD j false) g w

theorem exists_ready' {l : List Oper} (hedges : ∀ (j : Nat) (oj : Oper), l[j]? = some oj → ∀ e ∈ oj.after, Region.binds md e = true → e.on < j) {listed : Array Bool} (hc : Closed md l.toArray listed) : ∀ i, listed.getD i true = false → ∃ j, j ∈ Region.ready md l.toArray listed := by
  intro i
  induction i using Nat.strongRecOn with
  | _ i ih =>
    intro hi
    by_cases h : ∃ oi, l.toArray[i]? = some oi ∧ ∃ e ∈ oi.after, Region.binds md e = true ∧ listed.getD e.on false = false
    · obtain ⟨oi, hoi, e, he, hb, hf⟩ := h
      have hlt := hedges i oi (by simpa using hoi) e he hb
      have hil : i < listed.size := by
        rw [hc.1]; exact (Array.getElem?_eq_some_iff.1 hoi).1
      exact ih e.on hlt (getD_in (by omega) hf)
    · refine ⟨i, mem_ready.2 ⟨hi, ?_⟩⟩
      have hil : i < l.toArray.size := by
        rw [← hc.1]
        rcases Nat.lt_or_ge i listed.size with h' | h'
        · exact h'
        · simp [Array.getElem?_eq_none h'] at hi
      refine ⟨l.toArray[i], by simp [hil], fun e he hb => ?_⟩
      cases hl : listed.getD e.on false with
      | true => rfl
      | false => exact absurd ⟨l.toArray[i], by simp [hil], e, he, hb, hl⟩ h

theorem ghost_main (hF : Free F) {l : List Oper} {a0 : Act} (ok : GhostOk md l deps) (hnd : ∀ o ∈ l, ∀ q, o.op ≠ .defer q)
    (hg : ∀ f g w w', U f g w → Below w.heap.size w w' → U f g w')
    (hi : ∀ f f' g g' w, (∀ j, c.getD j none = none → f j = f' j ∧ g j = g' j) → U f g w → U f' g' w)
    (hw : ∀ f g w, U f g w → (∀ k, f k = true → ∀ j ∈ deps.getD k [], f j = true) → GW P l.toArray c deps U Q f g w 0 l a0) :
    ∀ (fuel : Nat) (V : List Nat) (listed : Array Bool) (g : Nat → Value) (a : Act) (w : World), V.Nodup → (∀ i, i ∈ V ↔ listed.getD i true = false) → V.length = fuel → Held md l c deps U a0 listed g a w →
      wpAnyIn F m P md l.toArray Q fuel listed a w := by
  intro fuel
  induction fuel with
  | zero =>
    intro V listed g a w hV hVm hVl H
    have hnil : V = [] := List.eq_nil_of_length_eq_zero hVl
    subst hnil
    have hall : ∀ i, listed.getD i true = true := fun i => by
      cases hi : listed.getD i true with
      | true => rfl
      | false => have := (hVm i).2 hi; cases this
    have hallf : ∀ i, i < l.length → listed.getD i false = true := fun i hil => by
      cases hi : listed.getD i false with
      | true => rfl
      | false => have := getD_in (by rw [H.closed.1]; simpa using hil) hi; rw [hall] at this; cases this
    refine ⟨?_, ?_⟩
    · apply List.eq_nil_iff_forall_not_mem.2
      intro j hj
      have := (mem_ready.1 hj).1
      rw [hall] at this; cases this
    · have h0 : putsG (fun j => decide (j < 0)) (knownG c g) 0 l a0 = a0 := by
        rw [putsG_congr l 0 a0 (fun j => decide (j < 0)) (fun _ => false) (knownG c g) g (fun j _ _ => ⟨by simp, fun h => by simp at h⟩)]
        have : ∀ (t : List Oper) k, putsG (fun _ => false) g k t a0 = a0 := by
          intro t
          induction t with
          | nil => intro k; rfl
          | cons o t ih => intro k; simp only [putsG, Bool.false_eq_true, if_false]; exact ih _
        exact this l 0
      have hGW := hw _ _ _ H.world H.down
      rw [← h0] at hGW
      have := (GW.at ok.dsts l 0 (fun j => by simp) (by simp) (by rw [h0] at hGW ⊢; exact hGW)).2 hallf
      rw [H.act]
      rw [putsG_congr l 0 a0 (fun j => listed.getD j false) (fun j => decide (j < l.length)) g (knownG c g) (fun j _ hj => ⟨by rw [hallf j (by omega)]; simp; omega, fun hf => by
        unfold knownG
        cases hc : c.getD j none with
        | none => rfl
        | some v => rw [H.vals j v hf hc]; rfl⟩)]
      exact this
  | succ fuel ih =>
    intro V listed g a w hV hVm hVl H
    refine ⟨fun h0 => ?_, fun i hir => ?_⟩
    · obtain ⟨j, hj⟩ : ∃ j, j ∈ V := by
        cases V with
        | nil => cases hVl
        | cons x r => exact ⟨x, by simp⟩
      obtain ⟨k, hk⟩ := exists_ready' ok.edges H.closed j ((hVm j).1 hj)
      rw [h0] at hk; cases hk
    · obtain ⟨hun, oi, hoi, hall⟩ := mem_ready.1 hir
      have hoi' : l[i]? = some oi := by simpa using hoi
      have hilt : i < l.length := (List.getElem?_eq_some_iff.1 hoi').1
      have hiV : i ∈ V := (hVm i).2 hun
      have hV' : (V.erase i).Nodup := hV.erase i
      have hVm' : ∀ j, j ∈ V.erase i ↔ (listed.setIfInBounds i true).getD j true = false := fun j => by
        by_cases hji : j = i
        · subst hji
          rw [getD_set_true']
          simp [hV.not_mem_erase]
        · rw [List.mem_erase_of_ne hji, hVm j, getD_set_ne true (Ne.symm hji)]
      have hVl' : (V.erase i).length = fuel := by rw [List.length_erase_of_mem hiV, hVl]; rfl
      have hc' := H.closed.set hir
      have hom : oi ∈ l := List.mem_of_getElem? hoi'
      have hfi : listed.getD i false = false := getD_both hun
      have hdown : ∀ j ∈ deps.getD i [], listed.getD j false = true := fun j hj => by
        obtain ⟨_, k, hk, hjk⟩ := ok.told i hilt j hj
        have hlk := ready_waits hir hk
        rcases hjk with rfl | hjk
        · exact hlk
        · exact H.down k hlk j hjk
      have hflag : (fun j => (listed.setIfInBounds i true).getD j false) = upd (fun j => listed.getD j false) i true := by
        funext j
        by_cases hji : j = i
        · subst hji
          rw [upd_self]
          have : j < listed.size := by rw [H.closed.1]; simpa using hilt
          simp [this]
        · rw [upd_ne _ _ hji, getD_set_ne false (Ne.symm hji)]
      -- the frame as the walk has it
      let A := putsG (fun j => decide (j < i)) (knownG c g) 0 l a0
      have hA : A = putsG (fun j => decide (j < i)) (knownG c g) 0 l a0 := rfl
      have h0 : putsG (fun j => decide (j < 0)) (knownG c g) 0 l a0 = a0 := by
        rw [putsG_congr l 0 a0 (fun j => decide (j < 0)) (fun _ => false) (knownG c g) g (fun j _ _ => ⟨by simp, fun h => by simp at h⟩)]
        have : ∀ (t : List Oper) k, putsG (fun _ => false) g k t a0 = a0 := by
          intro t
          induction t with
          | nil => intro k; rfl
          | cons o t ih => intro k; simp only [putsG, Bool.false_eq_true, if_false]; exact ih _
        exact this l 0
      have hGW := hw _ _ _ H.world H.down
      have hW := (GW.at (a0 := a0) ok.dsts l 0 (fun j => by simp) (by simp) (by rw [h0]; exact hGW)).1 i oi (Nat.zero_le _) hoi' hdown hfi
      rw [← hA] at hW
      have hsz : A.tmps.size = a.tmps.size := by rw [hA, H.act, putsG_size, putsG_size]
      have htm : ∀ t ∈ oi.looksAt l.toArray, a.tmps[t]? = A.tmps[t]? := fun t ht => by
        rw [hA, H.act]
        refine putsG_agree l 0 a0 a0 _ _ _ _ t rfl rfl (fun j oj hj hd => ?_)
        rw [Nat.zero_add]
        rcases ok.looks i j oi oj hoi' hj t hd ht with hjd | hjd
        rotate_left
        · have hjl : j < l.length := (List.getElem?_eq_some_iff.1 hj).1
          have hij := (ok.told j hjl i hjd).1
          have hnl : listed.getD j false = false := by
            cases hl : listed.getD j false with
            | false => rfl
            | true => have := H.down j hl i hjd; rw [hfi] at this; cases this
          exact ⟨by show listed.getD j false = decide (j < i); rw [hnl, decide_eq_false (by omega)], fun h => by rw [hnl] at h; cases h⟩
        have hlj := hdown j hjd
        have hji := (ok.told i hilt j hjd).1
        refine ⟨by show listed.getD j false = decide (j < i); rw [hlj, decide_eq_true hji], fun _ => ?_⟩
        unfold knownG
        cases hc : c.getD j none with
        | none => rfl
        | some v => rw [H.vals j v hlj hc]; rfl
      have hex : execOp a.eval oi = execOp A.eval oi := exec_same oi (fun cs b => ok.sel i oi cs b hoi') a A htm
      have hwn : Region.wanted oi (yielded l.toArray a.tmps) = Region.wanted oi (yielded l.toArray A.tmps) := wanted_same oi a A htm
      have hadA : A.defers = a.defers := by rw [hA, H.act, putsG_defers, putsG_defers]
      -- what comes behind
      have next : ∀ (ds : List Deferred) (v : Value) (w' : World), onceC A oi (fun u w' => match c.getD i none with | some v => u = v ∧ Below w.heap.size w w' | none => U (upd (fun j => listed.getD j false) i true) (upd g i u) w') .normal ((Act.deferring A ds).put oi.dst v) w' →
          wpAnyIn F m P md l.toArray Q fuel (listed.setIfInBounds i true) ((Act.deferring a ds).put oi.dst v) w' := fun ds v w' hnx => by
        obtain ⟨hds, hR⟩ := hnx
        rw [put_defers] at hds
        have hds' : ds = a.defers := by rw [← hadA]; exact hds
        subst hds'
        have hg' : got oi ((Act.deferring A a.defers).put oi.dst v) = got oi (a.put oi.dst v) := got_put_same oi _ _ v hsz
        rw [hg'] at hR
        rw [deferring_self, ← put_got]
        refine ih (V.erase i) _ (upd g i (got oi (a.put oi.dst v))) _ w' hV' hVm' hVl' ⟨hc', ?_, ?_, ?_, ?_⟩
        · rw [hflag, H.act]
          have := putsG_fire l 0 a0 i oi (got oi (a.put oi.dst v)) (fun j => listed.getD j false) g hoi' (by rw [Nat.zero_add]; exact hfi) (fun j oj hj hne => ok.dsts i j oi oj hoi' hj hne)
          rw [Nat.zero_add] at this
          rw [← H.act]
          rw [this, ← H.act]
        · intro j v' hj hcj
          by_cases hji : j = i
          · subst hji
            rw [upd_self]
            rw [hcj] at hR
            exact hR.1
          · rw [getD_set_ne false (Ne.symm hji)] at hj
            rw [upd_ne _ _ hji]
            exact H.vals j v' hj hcj
        · intro k hk j hj
          by_cases hki : k = i
          · subst hki; exact getD_set_true (hdown j hj)
          · rw [getD_set_ne false (Ne.symm hki)] at hk
            exact getD_set_true (H.down k hk j hj)
        · rw [hflag]
          cases hc : c.getD i none with
          | none => rw [hc] at hR; exact hR
          | some v' =>
            rw [hc] at hR
            refine hi _ _ _ _ _ (fun j hj => ?_) (hg _ _ _ _ H.world hR.2)
            have hji : j ≠ i := fun e => by rw [e, hc] at hj; cases hj
            exact ⟨(upd_ne (fun j => listed.getD j false) true hji).symm, (upd_ne g _ hji).symm⟩
      unfold wpOpIn
      simp only [hoi]
      simp only [wpList] at hW
      rw [← hwn] at hW
      by_cases hwt : Region.wanted oi (yielded l.toArray a.tmps) = true
      · rw [if_pos hwt] at hW
        rw [if_pos hwt]
        refine ⟨fun f _ => hF.fn f, ?_⟩
        rw [Oper.semAt_eq _ _ _ (hnd oi hom)]
        rcases hW with hW | ⟨_, hl⟩
        · unfold Oper.wp at hW
          rw [← hex] at hW
          exact uponIn_frame hF hadA (fun ds v w' h => next ds v w' h) hW
        · exact absurd hl (not_letsOut _)
      · rw [if_neg hwt] at hW
        rw [if_neg hwt]
        refine ⟨fun f _ => hF.fn f, ?_⟩
        have := next A.defers undef w (by rw [deferring_self]; exact hW)
        rw [hadA, deferring_self] at this
        exact this

/-- A region that draws its order, in a free fence. -/
theorem wpIn_region_ghost (hF : Free F) (c : List (Option Value)) (deps : List (List Nat)) (U : (Nat → Bool) → (Nat → Value) → World → Prop) {id : Nat} {a : Act} {w : World} {l : List Oper} (hm : P.follows .mixedOrders = true) (hnd : noDefer l = true) (hB : ghostB .any l deps = true)
    (hg : ∀ f g w w', U f g w → Below w.heap.size w w' → U f g w')
    (hi : ∀ f f' g g' w, (∀ j, c.getD j none = none → f j = f' j ∧ g j = g' j) → U f g w → U f' g' w)
    (h0 : U (fun _ => false) (fun _ => undef) { w with drawn := w.drawn + 1 })
    (hw : ∀ f g w, U f g w → (∀ k, f k = true → ∀ j ∈ deps.getD k [], f j = true) → GW P l.toArray c deps U Q f g w 0 l a) : (Code.region id l.toArray true).wpIn F m P Q a w := by
  have ok := ghostOk hB
  refine wpIn_region_any hm ?_
  have hf0 : (fun j => (Array.replicate l.toArray.size false).getD j false) = fun _ => false := by funext j; exact getD_replicate_false _ _
  refine ghost_main hF ok (noDefer_spec hnd) hg hi hw l.toArray.size (List.range l.toArray.size) _ (fun _ => undef) a _ List.nodup_range (fun i => ?_) (by simp) ⟨⟨by simp, fun j oj _ hl => ?_⟩, ?_, fun j v hj => ?_, fun k hk => ?_, ?_⟩
  · rw [List.mem_range]
    rcases Nat.lt_or_ge i l.toArray.size with h | h
    · exact ⟨fun _ => getD_in (by simpa using h) (getD_replicate_false _ _), fun _ => h⟩
    · refine ⟨fun h' => absurd h' (by omega), fun h' => ?_⟩
      simp only [List.size_toArray] at h
      simp [Array.getD, show ¬ i < l.length by omega] at h'
  · rw [getD_replicate_false] at hl; cases hl
  · rw [hf0]
    have : ∀ (t : List Oper) k, putsG (fun _ => false) (fun _ => undef) k t a = a := by
      intro t
      induction t with
      | nil => intro k; rfl
      | cons o t ih => intro k; simp only [putsG, Bool.false_eq_true, if_false]; exact ih _
    exact (this l 0).symm
  · rw [getD_replicate_false] at hj; cases hj
  · rw [getD_replicate_false] at hk; cases hk
  · rw [hf0]; exact h0

/-- The same for the plain walk. -/
theorem wp_region_ghost (c : List (Option Value)) (deps : List (List Nat)) (U : (Nat → Bool) → (Nat → Value) → World → Prop) {id : Nat} {a : Act} {w : World} {l : List Oper} (hm : P.follows .mixedOrders = true) (hnd : noDefer l = true) (hB : ghostB .any l deps = true)
    (hg : ∀ f g w w', U f g w → Below w.heap.size w w' → U f g w')
    (hi : ∀ f f' g g' w, (∀ j, c.getD j none = none → f j = f' j ∧ g j = g' j) → U f g w → U f' g' w)
    (h0 : U (fun _ => false) (fun _ => undef) { w with drawn := w.drawn + 1 })
    (hw : ∀ f g w, U f g w → (∀ k, f k = true → ∀ j ∈ deps.getD k [], f j = true) → GW P l.toArray c deps U Q f g w 0 l a) : (Code.region id l.toArray true).wp P Q a w :=
  wpIn_wide.1 (wpIn_region_ghost (m := 0) free_wide c deps U hm hnd hB hg hi h0 hw)
end
end Go.Proofs.Ytbkgipggblphlaa.Late
