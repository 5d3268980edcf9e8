/- Rows of keys of the call's own: Clone, SortFunc. Conditions: the keys lie in memory. -/
import Derived.Test.YtbkgipggblphlaaAcG
import Derived.Test.YtbkgipggblphlaaLayS
import Derived.Test.YtbkgipggblphlaaDrw
import Derived.Test.YtbkgipggblphlaaRApp2
import Derived.Shelf.SlSortCmp.NoneTotal
import Derived.Lib.QuietBelow
import Derived.Lib.SliceRun
import Derived.Deep.Upon
namespace Go.Proofs.Ytbkgipggblphlaa
open Go Go.RowKit
attribute [local go_sem] Oper.semAt_some Grows wide_fn

def flatKy (l : List Ky) : List Value := l.flatMap kyL
theorem flatKy_length : ∀ (l : List Ky), (flatKy l).length = l.length * 25
  | [] => rfl
  | x :: l => by
    have := flatKy_length l
    simp only [flatKy, List.flatMap_cons, List.length_append, List.length_cons] at this ⊢
    rw [this, kyL_len]
    omega
theorem flatKy_at : ∀ (l : List Ky) (i : Nat) (x : Ky) (j : Nat), l[i]? = some x → j < 25 → (flatKy l)[i * 25 + j]? = (kyL x)[j]?
  | [], i, x, j, h, _ => by simp at h
  | y :: l, 0, x, j, h, hj => by
    simp at h
    subst h
    rw [show flatKy (y :: l) = kyL y ++ flatKy l from rfl, List.getElem?_append_left (by rw [kyL_len]; omega), Nat.zero_mul, Nat.zero_add]
  | y :: l, i + 1, x, j, h, hj => by
    rw [show flatKy (y :: l) = kyL y ++ flatKy l from rfl, List.getElem?_append_right (by rw [kyL_len]; omega), kyL_len, show (i + 1) * 25 + j - 25 = i * 25 + j by omega]
    exact flatKy_at l i x j (by simpa using h) hj
/-- A row of keys of the call's own. -/
def KRow (W : World) (base : Nat) (v : Value) (l : List Ky) : Prop := W.ownsRow base 31 25 v l.length (flatKy l)
theorem KRow.keys {W : World} {base : Nat} {v : Value} {l : List Ky} (h : KRow W base v l) (hw : ∀ x ∈ l, KyOk x) : KeysAt W v l := by
  rcases h.2 with ⟨rfl, h0⟩ | ⟨g, cap, cur, rfl, hbg, hg', hnc, hcm, hcs, htake⟩
  · have : l = [] := List.eq_nil_of_length_eq_zero h0
    subst this
    exact KeysAt.nil W
  · refine ⟨some ⟨g, 0, none⟩, cap, rfl, hnc, by simpa [maxLen] using hcm, hw, fun i x hx => ⟨⟨g, 0, none⟩, rfl, fun j u hj => ?_⟩⟩
    have hj25 : j < 25 := by have := (List.getElem?_eq_some_iff.1 hj).1; rwa [kyL_len] at this
    rw [Addr.add_add]
    exact World.ownsRow.cells h (g := g) rfl _ _ ((flatKy_at l i x j hx hj25).trans hj)
theorem KRow.later {W X : World} {base : Nat} {v : Value} {l : List Ky} (h : KRow W base v l) (hb : Below W.heap.size W X) : KRow X base v l := by
  refine ⟨h.1, ?_⟩
  rcases h.2 with h0 | ⟨g, cap, cur, rfl, hbg, hg', hr⟩
  · exact .inl h0
  · exact .inr ⟨g, cap, cur, rfl, hbg, (hb.block g (Array.getElem?_eq_some_iff.1 hg').1).trans hg', hr⟩
theorem infoK : (Try.prog.info? 31).map (fun i => (i.zero, i.size, i.bytes)) = some (some (.agg #[.int .u8 0, .int .u8 0, .int .u8 0, .int .u8 0, .int .u8 0, .int .u8 0, .int .u8 0, .int .u8 0, .int .u8 0, .int .u8 0, .int .u8 0, .int .u8 0, .int .u8 0, .int .u8 0, .int .u8 0, .int .u8 0, .int .u8 0, .int .u8 0, .int .u8 0, .int .u8 0, .bool false, .int .u64 0, .int .u64 0, .int .u64 0, .int .u64 0]), 25, 56) := by kernel_rfl
theorem infoK_of : ∃ i, Try.prog.info? 31 = some i ∧ i.zero = some (.agg #[.int .u8 0, .int .u8 0, .int .u8 0, .int .u8 0, .int .u8 0, .int .u8 0, .int .u8 0, .int .u8 0, .int .u8 0, .int .u8 0, .int .u8 0, .int .u8 0, .int .u8 0, .int .u8 0, .int .u8 0, .int .u8 0, .int .u8 0, .int .u8 0, .int .u8 0, .int .u8 0, .bool false, .int .u64 0, .int .u64 0, .int .u64 0, .int .u64 0]) ∧ i.size = 25 ∧ i.bytes = 56 := by
  have h := infoK
  rcases hi : Try.prog.info? 31 with _ | i
  · rw [hi] at h; cases h
  · rw [hi] at h
    injection h with h
    simp only [Prod.mk.injEq] at h
    exact ⟨i, rfl, h.1, h.2.1, h.2.2⟩
theorem wpList_append_runK {P : Program} {w w' : World} {ops : Array Oper} {rest : List Oper} {o : Oper} {a : Act} {Q : Exit → Act → World → Prop}
    (hg : o.guard = none) (s x : Operand) (t : TypeId) (hop : o.op = Op.call { callee := Callee.builtin Builtin.append, args := #[s, x], argTypes := #[t, t] })
    (v x0 v' : Value) (hs : a.eval s = v) (hx : a.eval x = x0) (hr : (Builtin.append_ #[t, t] o.type #[v, x0]).run P w = .ok v' w')
    (hK : wpList P ops Q rest (a.put o.dst v') w') : wpList P ops Q (o :: rest) a w := by
  refine wpList_plain hg fun K hK' => ?_
  unfold Oper.wp execOp
  simp only [hop, resolve, invoke, builtin, Sem.run_bind, Sem.run_pure, Result.andThen_ok, List.map_toArray, List.map_cons, List.map_nil, hs, hx, hr]
  exact hK' _ _ hK
set_option maxRecDepth 100000 in
theorem copy_madeK (A : World) (sv : Value) (l : List Ky) (h : KeysAt A sv l) (hl : l.length ≤ 100000) :
    ∃ v' w', (Builtin.append_ #[22, 22] 22 #[.slice (some ⟨A.heap.size, 0, none⟩) 0 0, sv]).run Try.prog (A.alloc (.cells #[] 31)) = .ok v' w' ∧ KRow w' A.heap.size v' l ∧ Below A.heap.size A w' := by
  have hb0 := (Below.refl A.heap.size A).alloc (Nat.le_refl _) (.cells #[] 31)
  have h0 := World.ownsRow_made (base := A.heap.size) (e := 31) (size := 25) A #[] 0 (Nat.le_refl _) (Nat.zero_le _) rfl
  replace h := h.later hb0
  obtain ⟨A1, hA1⟩ : ∃ A1, A.alloc (.cells #[] 31) = A1 := ⟨_, rfl⟩
  rw [hA1] at hb0 h0 h ⊢
  obtain ⟨a, cap, rfl, h2, h3, h4, h5⟩ := h
  obtain ⟨i, hi, hz, hsize, hby⟩ := infoK_of
  cases l with
  | nil =>
    refine ⟨_, _, run_append_nothing (P := Try.prog) A1 22 22 22 31 i Try.underlying22 hi (some ⟨A.heap.size, 0, none⟩) 0 0 (Nat.le_refl _) (.slice a 0 cap) ?_, h0, hb0⟩
    cases a with
    | none => exact Src.ofNil _ Try.underlying22 cap
    | some b => exact Src.ofSlice _ Try.underlying22 b 0 cap [] (by simp) (fun j u hj => by simp at hj) (fun u hu => by cases hu)
  | cons x r =>
    obtain ⟨b, rfl, _⟩ := h5 0 x rfl
    obtain ⟨v', w', hr, hown, hgr, hnb⟩ := run_append_src (P := Try.prog) A1 A.heap.size 22 22 22 31 i _ 25 56 Try.underlying22 hi hz hsize hby rfl (by decide) (.slice (some ⟨A.heap.size, 0, none⟩) 0 0) 0 [] h0 (.slice (some b) (x :: r).length cap) (x :: r).length (by simp) (flatKy (x :: r)) (by
      rw [hsize]
      refine Src.ofSlice _ Try.underlying22 b _ cap _ (flatKy_length _) (fun j u hj => ?_) (fun u hu => ?_)
      · have hj8 : j < (x :: r).length * 25 := by
          have := (List.getElem?_eq_some_iff.1 hj).1
          rwa [flatKy_length] at this
        obtain ⟨y, hy⟩ : ∃ y, (x :: r)[j / 25]? = some y := ⟨_, List.getElem?_eq_getElem (by omega)⟩
        obtain ⟨b', hb', hc⟩ := h5 (j / 25) y hy
        injection hb' with hb'
        subst hb'
        have hf := flatKy_at (x :: r) (j / 25) y (j % 25) hy (by omega)
        rw [show j / 25 * 25 + j % 25 = j by omega, hj] at hf
        have h8 := hc (j % 25) u hf.symm
        rw [Addr.add_add, show j / 25 * 25 + j % 25 = j by omega] at h8
        exact h8
      · obtain ⟨y, _, hy⟩ := List.mem_flatMap.1 hu
        exact kyL_one y u hy) (by omega) (by unfold maxLen; omega) hb0.size
    refine ⟨v', w', hr, ?_, ?_⟩
    · unfold KRow
      rw [Nat.zero_add, List.nil_append] at hown
      exact hown
    · exact hb0.grown hgr hb0.size (by intro k hk; simp [Value.ownBlock] at hk; omega)

set_option maxRecDepth 100000 in
set_option maxHeartbeats 1000000 in
theorem clone_keys (W : World) (sv : Value) (l : List Ky) (hs : KeysAt W sv l) (hl : l.length ≤ 100000) :
    Calls Try.prog 49 #[sv] W fun e w' => ∃ v', e = .returned v' ∧ KRow w' W.heap.size v' l ∧ Below W.heap.size W w' := by
  have q22 := fun (w : World) (a : Option Addr) (n c n' c' : Nat) => Lib.run_eql_slice_nil (P := Try.prog) w 22 _ a n c n' c' Try.underlying22
  have HS := Lib.hid hs
  obtain ⟨v', w', hr, hrow, hb⟩ := copy_madeK W sv l hs hl
  have HR := Lib.hid hrow
  have HB := Lib.hid hb
  clear hrow hb hl
  obtain ⟨a, cap, rfl, hnc, hcm⟩ := hs.shape
  cases a with
  | none =>
    have h0 : l = [] := by
      cases l with
      | nil => rfl
      | cons x r =>
        obtain ⟨b, e, _⟩ := hs.at (i := 0) (x := x) rfl
        cases e
    subst h0
    clear hr hs hnc hcm
    go_enter Try.func49, Try.ntmps49
    go_wp2_with fail
    go_ret
    exact ⟨_, rfl, World.ownsRow_nil _ _ _ _, Below.refl _ _⟩
  | some b =>
    obtain ⟨n, hn⟩ : ∃ n, l.length = n := ⟨_, rfl⟩
    rw [hn] at hr ⊢
    clear hs hnc hcm hn
    go_enter Try.func49, Try.ntmps49
    go_wp2_with (at_builtin; refine wpList_append_runK rfl (.tmp 5) (.tmp 6) 22 rfl _ _ _ rfl rfl hr ?_)
    go_ret
    exact ⟨_, rfl, HR.out, HB.out⟩

/-! ### SortFunc -/
/-- A key that may lie in memory. -/
abbrev KyS : Type := { k : Ky // KyOk k }
instance kySInhabited : Inhabited KyS := ⟨⟨⟨0, false, 0⟩, ⟨by decide, by show W256 0; unfold W256; omega⟩⟩⟩
def encS (x : KyS) : List Value := kyL x.1
def cfS (x y : KyS) : Int := kcmp x.1 y.1
theorem ltS_true {x y : KyS} : ltOf cfS x y = true ↔ Kl x.1 y.1 := by unfold ltOf cfS Kl; exact decide_eq_true_iff
theorem ltS_false {x y : KyS} : ltOf cfS x y = false ↔ ¬ Kl x.1 y.1 := by rw [← ltS_true]; cases ltOf cfS x y <;> simp
theorem swoS : Sort.SWO (ltOf cfS) where
  irrefl x := ltS_false.2 (Kl.irrefl _)
  trans x y z h1 h2 := ltS_true.2 ((ltS_true.1 h1).trans (ltS_true.1 h2))
  ntrans x y z h1 h2 := ltS_false.2 (fun h => by
    have n1 := ltS_false.1 h1
    have n2 := ltS_false.1 h2
    rcases kcmp_tri x.1 y.1 with ⟨h, _⟩ | ⟨e, _⟩ | ⟨h', _⟩
    · exact n1 h
    · rw [e] at h; exact n2 h
    · exact n2 (h'.trans h))
theorem grown_up {w w' : World} (h : Below w.heap.size w w') (hd : w.drawn ≤ w'.drawn) : ∃ q os', w' = Sort.grow (w.drewN q) os' := by
  obtain ⟨p, rfl⟩ := regrown_of_below h
  have hd' : w.drawn ≤ p.d := hd
  refine ⟨p.d - w.drawn, p.os, ?_⟩
  have e : w.drewN (p.d - w.drawn) = redrawn w p.d := by
    show ({ w with drawn := w.drawn + (p.d - w.drawn) } : World) = { w with drawn := p.d }
    rw [show w.drawn + (p.d - w.drawn) = p.d by omega]
  rw [e]
theorem cmpS (blk off size : Nat) (w : World) : CmpLays Try.prog 9 #[] encS 25 cfS blk off size w := fun m os dk _ x y => by
  have h := calls_up (korder_any (sortWorldK encS 25 w blk off m dk os) x.1 y.1 x.2 y.2)
  exact h.mono fun e w' ⟨⟨he, hb⟩, hd⟩ => ⟨he, grown_up hb (by
    rcases hd with hd | hd
    · rw [he] at hd; cases hd
    · exact hd)⟩
theorem flatK_list (d : Array KyS) : (Sort.flatK encS 25 d).toList = flatKy (d.toList.map (·.1)) := by
  apply List.ext_getElem?
  intro t
  by_cases ht : t < d.size * 25
  · have hq : t / 25 < d.size := by omega
    have h1 := flatKy_at (d.toList.map (·.1)) (t / 25) d[t / 25].1 (t % 25) (by simp [hq]) (Nat.mod_lt _ (by decide))
    rw [show t / 25 * 25 + t % 25 = t by omega] at h1
    rw [h1]
    have h2 := Sort.get_flatK encS 25 d t ht
    have hsz : t < (Sort.flatK encS 25 d).size := by rw [Sort.size_flatK]; exact ht
    rw [getElem!_pos _ t hsz, getElem!_pos d (t / 25) hq] at h2
    have h3 : t % 25 < (encS d[t / 25]).length := by unfold encS; rw [kyL_len]; exact Nat.mod_lt _ (by decide)
    rw [getElem!_pos _ (t % 25) h3] at h2
    rw [Array.getElem?_toList, Array.getElem?_eq_getElem hsz, h2]
    exact (List.getElem?_eq_getElem h3).symm
  · rw [Array.getElem?_toList, Array.getElem?_eq_none (by rw [Sort.size_flatK]; omega), List.getElem?_eq_none (by rw [flatKy_length]; simp; omega)]
theorem putCells_take (F cur : Array Value) (h : F.size ≤ cur.size) : (Sort.putCells id 0 F cur).toList.take F.size = F.toList := by
  apply List.ext_getElem?
  intro t
  by_cases ht : t < F.size
  · rw [List.getElem?_take, if_pos ht, Array.getElem?_toList, Array.getElem?_toList]
    unfold Sort.putCells
    rw [Array.getElem?_mapIdx, Array.getElem?_eq_getElem (show t < cur.size by omega), Option.map_some, if_pos ⟨Nat.zero_le _, by omega⟩, Nat.sub_zero, getElem!_pos F t ht, Array.getElem?_eq_getElem ht]
    rfl
  · rw [List.getElem?_eq_none (by simp; omega), List.getElem?_eq_none (by simp; omega)]
theorem sortWorld_heap (W : World) (g m : Nat) (F cur : Array Value) (t : TypeId) (os : Array Obj) (hg : W.heap[g]? = some (.cells cur t (0, 0))) :
    (Sort.grow (Sort.putRow id (Sort.ahead W m) g 0 F) os).heap[g]? = some (.cells (Sort.putCells id 0 F cur) t (0, 0)) ∧ Below g W (Sort.grow (Sort.putRow id (Sort.ahead W m) g 0 F) os) := by
  have hlt := (Array.getElem?_eq_some_iff.1 hg).1
  have he := (Array.getElem?_eq_some_iff.1 hg).2
  unfold Sort.grow Sort.putRow Sort.mapBlock Sort.ahead
  refine ⟨?_, ⟨rfl, rfl, rfl, by simp, fun k hk => ?_⟩⟩
  · simp only
    rw [Array.getElem?_append_left (by rw [Array.size_modify]; exact hlt), Array.getElem?_eq_getElem (by rw [Array.size_modify]; exact hlt), Array.getElem_modify_self, he]
    rfl
  · simp only
    rw [Array.getElem?_append_left (by rw [Array.size_modify]; omega), Array.getElem?_modify, if_neg (by omega)]
/-- No later key is ahead of an earlier one. -/
def Kso (l : List Ky) : Prop := ∀ (i j : Nat) (x y : Ky), i < j → l[i]? = some x → l[j]? = some y → ¬ Kl y x
set_option maxHeartbeats 1000000 in
theorem sort_keys (W : World) (base : Nat) (v : Value) (l : List Ky) (hr : KRow W base v l) (hok : ∀ x ∈ l, KyOk x) (hl : l.length ≤ 100000) (hbase : base ≤ W.heap.size) :
    Calls Try.prog 50 #[v, .func (.func 9) #[] #[]] W fun e w' => e = .returned (.tuple #[]) ∧ ∃ l', KRow w' base v l' ∧ l'.Perm l ∧ Kso l' ∧ Below base W w' := by
  have none_ : ∀ p cap, v = .slice p 0 cap → l = [] → Calls Try.prog 50 #[v, .func (.func 9) #[] #[]] W fun e w' => e = .returned (.tuple #[]) ∧ ∃ l', KRow w' base v l' ∧ l'.Perm l ∧ Kso l' ∧ Below base W w' := fun p cap hv h0 => by
    subst hv
    subst h0
    exact (AnyF.slices_SortFunc_none laySort p cap _ W).mono fun _ _ ⟨he, hw⟩ => by subst hw; exact ⟨he, [], hr, List.Perm.refl _, (fun i j x y _ h => by simp at h), Below.refl _ _⟩
  rcases hr.2 with ⟨hv, h0⟩ | ⟨g, cap, cur, hv, hbg, hg', hnc, hcm, hcs, htake⟩
  · exact none_ none 0 hv (List.eq_nil_of_length_eq_zero h0)
  · obtain ⟨d, hd⟩ : ∃ d : Array KyS, d.toList.map (·.1) = l := ⟨(l.pmap (fun x h => (⟨x, h⟩ : KyS)) hok).toArray, by simp [List.map_pmap]⟩
    have hds : d.size = l.length := by rw [← hd]; simp
    have hF := flatK_list d
    rw [hd] at hF
    have hH : Sort.HoldsK encS 25 W g 0 d := fun t ht => by
      rw [Sort.size_flatK] at ht
      have hlt : t < cur.size := by rw [hcs]; omega
      have hts : t < (Sort.flatK encS 25 d).size := by rw [Sort.size_flatK]; exact ht
      refine ⟨?_, by simp [World.frozen?, hg']⟩
      rw [Nat.zero_add]
      have e : (flatKy l)[t]? = some cur[t] := by
        rw [← htake, List.getElem?_take, if_pos (by omega), Array.getElem?_toList, Array.getElem?_eq_getElem hlt]
      rw [← hF, Array.getElem?_toList, Array.getElem?_eq_getElem hts] at e
      injection e with e
      rw [getElem!_pos _ t hts, e]
      simp [World.cell?, hg', hlt]
    have hcon := AnyQ.slices_SortFunc laySort 25 Try.isAgg31 Try.sizeOf31 encS (fun x => kyL_len x.1) (fun x => kyL_one x.1) cfS swoS 9 #[] g 0 cap d W (enters_of Try.func9 (by kernel_rfl) rfl) (cmpS g 0 d.size W) hH (Array.getElem?_eq_some_iff.1 hg').1 (by omega)
    change Calls Try.prog 50 _ _ _ at hcon
    rw [hds, ← hv] at hcon
    refine hcon.mono ?_
    rintro e w' ⟨he, d', n, os, hp, hs, hw⟩
    have hsz : d'.size = d.size := hp.1
    have hperm : d'.toList.Perm d.toList := by
      have := hp.2.2
      rw [Array.extract_eq_self_of_le (by omega), Array.extract_eq_self_of_le (by omega)] at this
      exact this
    obtain ⟨k1, k2⟩ := sortWorld_heap W g n (Sort.flatK encS 25 d') cur _ os hg'
    have hw' : w' = Sort.grow (Sort.putRow id (Sort.ahead W n) g 0 (Sort.flatK encS 25 d')) os := hw
    rw [← hw'] at k1 k2
    refine ⟨he, d'.toList.map (·.1), ⟨flatKy_length _, .inr ⟨g, cap, _, ?_, hbg, k1, ?_, hcm, ?_, ?_⟩⟩, ?_, ?_, k2.mono hbg⟩
    · rw [hv]; simp [hsz, hds]
    · simp [hsz, hds]; omega
    · unfold Sort.putCells; simp [hcs]
    · have h1 : (Sort.flatK encS 25 d').size ≤ cur.size := by rw [Sort.size_flatK, hcs, hsz, hds]; exact Nat.mul_le_mul_right _ hnc
      have h2 := putCells_take (Sort.flatK encS 25 d') cur h1
      rw [Sort.size_flatK] at h2
      rw [← flatK_list d', ← h2]
      simp
    · rw [← hd]; exact hperm.map _
    · intro i j x y hij hx hy
      have hj : j < d'.size := by have := (List.getElem?_eq_some_iff.1 hy).1; simpa using this
      have h1 := hs i j (Nat.zero_le _) hij (by omega)
      have hi : i < d'.size := by omega
      rw [getElem!_pos d' j hj, getElem!_pos d' i hi, ltS_false] at h1
      simp [hi] at hx
      simp [hj] at hy
      rw [← hx, ← hy]
      exact h1
end Go.Proofs.Ytbkgipggblphlaa
